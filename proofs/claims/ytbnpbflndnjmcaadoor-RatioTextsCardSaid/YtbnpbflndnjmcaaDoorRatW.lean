/- The contract of copseref03.Parse. -/
import Derived.Test.YtbnpbflndnjmcaaDoorRatV
namespace Go.Proofs.YtbnpbflndnjmcaaDoor
open Go.RowKit

abbrev noV : Value := .tuple #[.agg #[.int .i64 0, .int .i64 0], .int .i64 30]
abbrev okV (P Q : Int) : Value := .tuple #[.agg #[.int .i64 P, .int .i64 Q], .int .i64 0]
theorem ext_drop (s : ByteArray) : s.extract 1 s.size = bstr (s.data.toList.drop 1) := ByteArray.ext (Array.toList_inj.1 (by simp [List.take_of_length_le]))
def PaJ (B : Nat) (W : World) (P Q : Int) (w : World) : Prop := Box w B #[.int .i64 0, .int .i64 0] 23 ∧ Box w (B + 1) #[.int .i64 P, .int .i64 Q] 23 ∧ Below B W w
theorem PaJ.below {B : Nat} {W w w' : World} {P Q : Int} (h : PaJ B W P Q w) (hb : Below w.heap.size w w') : PaJ B W P Q w' :=
  ⟨h.1.below hb h.1.lt, h.2.1.below hb h.2.1.lt, h.2.2.trans (hb.mono (Nat.le_of_lt h.1.lt))⟩
theorem PaJ.setP {B : Nat} {W w : World} {P Q : Int} (h : PaJ B W P Q w) (n : Int) : PaJ B W n Q (w.setCell ⟨B + 1, 0, none⟩ (.int .i64 n)) :=
  ⟨h.1.off (by simp) _, h.2.1.set 0 _, h.2.2.setCell (p := ⟨B + 1, 0, none⟩) (by simp) _⟩
theorem PaJ.setQ {B : Nat} {W w : World} {P Q : Int} (h : PaJ B W P Q w) (n : Int) : PaJ B W P n (w.setCell ⟨B + 1, 1, none⟩ (.int .i64 n)) :=
  ⟨h.1.off (by simp) _, h.2.1.set 1 _, h.2.2.setCell (p := ⟨B + 1, 1, none⟩) (by simp) _⟩
theorem end_ways (s tb : ByteArray) (Q : Int) (ht : tb.size ≤ maxLen) (hA : cutA s.data.toList = tb.data.toList) (hQ : Q = cutQ s.data.toList) (hQ2 : 0 ≤ Q ∧ Q ≤ 9999999999) :
    ∃ (mi : Bool) (bd : ByteArray) (cN P : Int) (cB : Bool),
      ((mi = false ∧ tb.size = 0 ∧ bd = tb) ∨ (mi = true ∧ ∃ h : 0 < tb.size, ((tb[0].toNat : Int) == 45) = true ∧ bd = tb.extract 1 tb.size) ∨ (mi = false ∧ ∃ h : 0 < tb.size, ((tb[0].toNat : Int) == 45) = false ∧ bd = tb)) ∧
      (0 ≤ cN ∧ cN ≤ 9999999999) ∧ P = (if mi = true then -cN else cN) ∧
      (∀ W, Calls Tryd.prog 52 #[.string bd] W fun e w' => e = .returned (.tuple #[.int .i64 cN, .bool cB]) ∧ Below W.heap.size W w') ∧
      ((cB = false ∧ prV s.data.toList = noV) ∨
       (cB = true ∧ ∃ T : ByteArray, (∀ W, Calls Tryd.prog 32 #[.agg #[.int .i64 P, .int .i64 Q]] W fun e w' => e = .returned (.string T) ∧ Below W.heap.size W w') ∧
         (((T.toList == s.toList) = true ∧ prV s.data.toList = okV P Q) ∨ ((T.toList == s.toList) = false ∧ prV s.data.toList = noV)))) := by
  have hz : tb.data.toList.length = tb.size := by simp
  have hmain : ∃ (mi : Bool) (bd : ByteArray), mi = miB tb.data.toList ∧ bd.data.toList = bdy tb.data.toList ∧ bd.size ≤ maxLen ∧
      ((mi = false ∧ tb.size = 0 ∧ bd = tb) ∨ (mi = true ∧ ∃ h : 0 < tb.size, ((tb[0].toNat : Int) == 45) = true ∧ bd = tb.extract 1 tb.size) ∨ (mi = false ∧ ∃ h : 0 < tb.size, ((tb[0].toNat : Int) == 45) = false ∧ bd = tb)) := by
    by_cases h0 : tb.size = 0
    · have e : tb.data.toList = [] := List.length_eq_zero_iff.1 (by omega)
      refine ⟨false, tb, by rw [e]; rfl, by rw [e]; rfl, ht, .inl ⟨rfl, h0, rfl⟩⟩
    · have hpos : 0 < tb.size := by omega
      have hh : tb.data.toList.head? = some tb[0] := by
        rw [List.head?_eq_getElem?, List.getElem?_eq_getElem (by omega)]; rfl
      by_cases h45 : tb[0] = 45
      · have hm : miB tb.data.toList = true := by unfold miB; rw [hh, h45]; rfl
        refine ⟨true, tb.extract 1 tb.size, hm.symm, ?_, ?_, .inr (.inl ⟨rfl, hpos, by rw [h45]; rfl, rfl⟩)⟩
        · unfold bdy
          rw [if_pos hm, ext_drop]
        · rw [ext_drop, bstr_size, List.length_drop]; omega
      · have hm : miB tb.data.toList = false := by unfold miB; rw [hh]; simpa using h45
        refine ⟨false, tb, hm.symm, ?_, ht, .inr (.inr ⟨rfl, hpos, ?_, rfl⟩)⟩
        · unfold bdy
          rw [if_neg (by rw [hm]; decide)]
        · have : (tb[0].toNat : Int) ≠ 45 := fun hc => h45 (UInt8.toNat_inj.1 (by show tb[0].toNat = 45; omega))
          simpa using this
  obtain ⟨mi, bd, hmi, hbd, hbs, hway⟩ := hmain
  have hb := cntN_bd (bdy tb.data.toList)
  refine ⟨mi, bd, cntN (bdy tb.data.toList), pP tb.data.toList, cntB (bdy tb.data.toList), hway, hb, by rw [hmi]; rfl, fun W => by have h := ref3_count bd hbs W; rw [hbd] at h; exact h, ?_⟩
  by_cases hc : cntB (bdy tb.data.toList) = true
  · refine .inr ⟨hc, bstr (rtxt (pP tb.data.toList) Q), fun W => ref3_text _ _ ?_ (by unfold I64; omega) W, ?_⟩
    · unfold pP I64; split <;> omega
    · by_cases he : rtxt (pP tb.data.toList) Q = s.data.toList
      · refine .inl ⟨by rw [ByteArray.toList_eq, ByteArray.toList_eq]; simpa using he, end_ok ?_ he⟩
        intro hn
        rw [hn] at hA
        rw [← hA] at hc
        exact absurd hc (by decide)
      · refine .inr ⟨by rw [ByteArray.toList_eq, ByteArray.toList_eq]; simpa using he, prV_no fun hp => he ?_⟩
        have h := (prOk_cut hp).2.2
        rw [hA, ← hQ] at h
        exact h
  · refine .inl ⟨by simpa using hc, prV_no fun hp => hc ?_⟩
    have h := (prOk_cut hp).1
    rw [hA] at h
    exact h

set_option maxRecDepth 100000 in
set_option maxHeartbeats 2000000 in
theorem ref3_parse (s : ByteArray) (hs : s.size ≤ maxLen) (w : World) :
    Calls Tryd.prog 31 #[.string s] w fun e w' => e = .returned (prV s.data.toList) ∧ Below w.heap.size w w' := by
  have HS := Lib.hid hs
  unfold maxLen at hs
  have HL : Hid (s.data.toList.length = s.size) := by show _ = _; simp
  have J0 := ((Keeps.start w).alloc #[.int .i64 0, .int .i64 0] 23).alloc #[.int .i64 0, .int .i64 1] 23
  simp only [alloc_size'] at J0
  have J : Hid (PaJ w.heap.size w 0 1 ((w.alloc (.cells #[.int .i64 0, .int .i64 0] 23)).alloc (.cells #[.int .i64 0, .int .i64 1] 23))) := ⟨J0.tail.head, J0.head, J0.2.1⟩
  clear J0
  obtain ⟨t0, t1, t2, t3⟩ := J.out.1.two
  obtain ⟨r0, r1, r2, r3⟩ := J.out.2.1.two
  go_enter Tryd.func31, Tryd.ntmps31
  go_wp2
  go_loopw [5, 6] (fun tv iv wr => ∃ k : Nat, k ≤ s.size ∧ tv = .string s ∧ iv = .int .i64 k ∧ Hid (∀ j, j < k → s.data.toList[j]? ≠ some 47) ∧ Hid (PaJ w.heap.size w 0 1 wr)) (fun _ iv _ => s.size - (intOf iv).toNat)
  case atStart => exact ⟨0, Nat.zero_le _, rfl, rfl, fun j hj => absurd hj (by omega), J⟩
  case round =>
    clear t0 t1 t2 t3 r0 r1 r2 r3 J
    obtain ⟨k, hk, rfl, rfl, HK, J⟩ := hrel
    obtain ⟨t0, t1, t2, t3⟩ := J.out.1.two
    obtain ⟨r0, r1, r2, r3⟩ := J.out.2.1.two
    by_cases hlt : k < s.size
    · have hget : s.data.toList[k]? = some s[k] := by
        rw [List.getElem?_eq_getElem (by rw [HL.out]; exact hlt)]; rfl
      by_cases h47 : s[k] = 47
      · have hb : ((s[k].toNat : Int) == 47) = true := by rw [h47]; rfl
        rw [h47] at hget
        have HC := Lib.hid (cut_hit k _ hget HK.out)
        have hB : (s.extract (k + 1) s.size).data.toList = cutR s.data.toList := by rw [HC.out.2.1]; simp [List.take_of_length_le]
        have hBs : (s.extract (k + 1) s.size).size ≤ maxLen := by rw [ByteArray.size_extract]; have := HS.out; omega
        have hAs : (s.extract 0 k).size ≤ maxLen := by rw [ByteArray.size_extract]; have := HS.out; omega
        have hA : cutA s.data.toList = (s.extract 0 k).data.toList := by rw [HC.out.1]; simp
        have KQ : Hid (∀ W, Calls Tryd.prog 52 #[.string (s.extract (k + 1) s.size)] W fun e w' => e = .returned (.tuple #[.int .i64 (cntN (cutR s.data.toList)), .bool (cntB (cutR s.data.toList))]) ∧ Below W.heap.size W w') := fun W => by
          have h := ref3_count (s.extract (k + 1) s.size) hBs W
          rw [hB] at h
          exact h
        have hqb := cntN_bd (cutR s.data.toList)
        have HQ : Hid (cutQ s.data.toList = cntN (cutR s.data.toList)) := by show _ = _; unfold cutQ; rw [HC.out.2.2]; rfl
        have hw := fun Q hQ hq => end_ways s (s.extract 0 k) Q hAs hA hQ hq
        have HA := Lib.hid hA
        clear hget h47 hA hB hBs hAs
        have c1 : (0 : Int) ≤ (k : Int) := by omega
        have c2 : (k : Int) ≤ (s.size : Int) := by omega
        have c3 : (0 : Int) ≤ (k : Int) + 1 := by omega
        have c4 : (k : Int) + 1 ≤ (s.size : Int) := by omega
        by_cases hB : cntB (cutR s.data.toList) = true
        · rw [hB] at KQ
          obtain ⟨mi, bd, cN, P, cB, hway, ⟨d0, d1⟩, hP, KC, hend⟩ := hw _ HQ.out.symm hqb
          clear hw
          have HBB := Lib.hid hB
          clear hB
          generalize cntN (cutR s.data.toList) = Q at *
          generalize hT : s.extract 0 k = tb at *
          obtain ⟨q0, q1⟩ := hqb
          have KC := Lib.hid KC
          rcases hway with ⟨rfl, hz, rfl⟩ | ⟨rfl, hpos, h45, rfl⟩ | ⟨rfl, hpos, h45, rfl⟩
          · simp only [if_false, Bool.false_eq_true] at hP
            subst hP
            rcases hend with ⟨rfl, hv⟩ | ⟨rfl, T, KT, ⟨heq, hv⟩ | ⟨heq, hv⟩⟩
            · have HV := Lib.hid hv
              clear hv
              obtain ⟨t0, t1, t2, t3⟩ := J.out.1.two
              obtain ⟨r0, r1, r2, r3⟩ := J.out.2.1.two
              go_wp2_with fail
              refine (KQ.out _).mono ?_
              rintro e w5 ⟨rfl, bb⟩
              have J := Lib.hid (J.out.below bb)
              clear bb
              obtain ⟨t0, t1, t2, t3⟩ := J.out.1.two
              obtain ⟨r0, r1, r2, r3⟩ := J.out.2.1.two
              have J := Lib.hid (J.out.setQ Q)
              obtain ⟨t0, t1, t2, t3⟩ := J.out.1.two
              obtain ⟨r0, r1, r2, r3⟩ := J.out.2.1.two
              go_wp2_with fail
              refine (KC.out _).mono ?_
              rintro e w5 ⟨rfl, bb⟩
              have J := Lib.hid (J.out.below bb)
              clear bb
              obtain ⟨t0, t1, t2, t3⟩ := J.out.1.two
              obtain ⟨r0, r1, r2, r3⟩ := J.out.2.1.two
              have J := Lib.hid (J.out.setP P)
              obtain ⟨t0, t1, t2, t3⟩ := J.out.1.two
              obtain ⟨r0, r1, r2, r3⟩ := J.out.2.1.two
              go_wp2
              have Z := J.out.1.set2 (.int .i64 (0)) (.int .i64 (0))
              obtain ⟨k0, k1, _, _⟩ := Z.two
              refine bodyPost_ret (v := noV) ?_ rfl ⟨by rw [HV.out], (J.out.2.2.setCell (p := ⟨w.heap.size, 0, none⟩) (by simp) _).setCell (p := ⟨w.heap.size, 1, none⟩) (by simp) _⟩
              simp [results, Tryd.results31, go_sem, k0, k1]
            · have HV := Lib.hid hv
              clear hv
              have KT := Lib.hid KT
              obtain ⟨t0, t1, t2, t3⟩ := J.out.1.two
              obtain ⟨r0, r1, r2, r3⟩ := J.out.2.1.two
              go_wp2_with fail
              refine (KQ.out _).mono ?_
              rintro e w5 ⟨rfl, bb⟩
              have J := Lib.hid (J.out.below bb)
              clear bb
              obtain ⟨t0, t1, t2, t3⟩ := J.out.1.two
              obtain ⟨r0, r1, r2, r3⟩ := J.out.2.1.two
              have J := Lib.hid (J.out.setQ Q)
              obtain ⟨t0, t1, t2, t3⟩ := J.out.1.two
              obtain ⟨r0, r1, r2, r3⟩ := J.out.2.1.two
              go_wp2_with fail
              refine (KC.out _).mono ?_
              rintro e w5 ⟨rfl, bb⟩
              have J := Lib.hid (J.out.below bb)
              clear bb
              obtain ⟨t0, t1, t2, t3⟩ := J.out.1.two
              obtain ⟨r0, r1, r2, r3⟩ := J.out.2.1.two
              have J := Lib.hid (J.out.setP P)
              obtain ⟨t0, t1, t2, t3⟩ := J.out.1.two
              obtain ⟨r0, r1, r2, r3⟩ := J.out.2.1.two
              go_wp2_with fail
              refine (KT.out _).mono ?_
              rintro e w5 ⟨rfl, bb⟩
              have J := Lib.hid (J.out.below bb)
              clear bb
              obtain ⟨t0, t1, t2, t3⟩ := J.out.1.two
              obtain ⟨r0, r1, r2, r3⟩ := J.out.2.1.two
              go_wp2
              have Z := J.out.1.set2 (.int .i64 (P)) (.int .i64 (Q))
              obtain ⟨k0, k1, _, _⟩ := Z.two
              refine bodyPost_ret (v := okV P Q) ?_ rfl ⟨by rw [HV.out], (J.out.2.2.setCell (p := ⟨w.heap.size, 0, none⟩) (by simp) _).setCell (p := ⟨w.heap.size, 1, none⟩) (by simp) _⟩
              simp [results, Tryd.results31, go_sem, k0, k1]
            · have HV := Lib.hid hv
              clear hv
              have KT := Lib.hid KT
              obtain ⟨t0, t1, t2, t3⟩ := J.out.1.two
              obtain ⟨r0, r1, r2, r3⟩ := J.out.2.1.two
              go_wp2_with fail
              refine (KQ.out _).mono ?_
              rintro e w5 ⟨rfl, bb⟩
              have J := Lib.hid (J.out.below bb)
              clear bb
              obtain ⟨t0, t1, t2, t3⟩ := J.out.1.two
              obtain ⟨r0, r1, r2, r3⟩ := J.out.2.1.two
              have J := Lib.hid (J.out.setQ Q)
              obtain ⟨t0, t1, t2, t3⟩ := J.out.1.two
              obtain ⟨r0, r1, r2, r3⟩ := J.out.2.1.two
              go_wp2_with fail
              refine (KC.out _).mono ?_
              rintro e w5 ⟨rfl, bb⟩
              have J := Lib.hid (J.out.below bb)
              clear bb
              obtain ⟨t0, t1, t2, t3⟩ := J.out.1.two
              obtain ⟨r0, r1, r2, r3⟩ := J.out.2.1.two
              have J := Lib.hid (J.out.setP P)
              obtain ⟨t0, t1, t2, t3⟩ := J.out.1.two
              obtain ⟨r0, r1, r2, r3⟩ := J.out.2.1.two
              go_wp2_with fail
              refine (KT.out _).mono ?_
              rintro e w5 ⟨rfl, bb⟩
              have J := Lib.hid (J.out.below bb)
              clear bb
              obtain ⟨t0, t1, t2, t3⟩ := J.out.1.two
              obtain ⟨r0, r1, r2, r3⟩ := J.out.2.1.two
              go_wp2
              have Z := J.out.1.set2 (.int .i64 (0)) (.int .i64 (0))
              obtain ⟨k0, k1, _, _⟩ := Z.two
              refine bodyPost_ret (v := noV) ?_ rfl ⟨by rw [HV.out], (J.out.2.2.setCell (p := ⟨w.heap.size, 0, none⟩) (by simp) _).setCell (p := ⟨w.heap.size, 1, none⟩) (by simp) _⟩
              simp [results, Tryd.results31, go_sem, k0, k1]
          · simp only [if_true] at hP
            subst hP
            rcases hend with ⟨rfl, hv⟩ | ⟨rfl, T, KT, ⟨heq, hv⟩ | ⟨heq, hv⟩⟩
            · have HV := Lib.hid hv
              clear hv
              obtain ⟨t0, t1, t2, t3⟩ := J.out.1.two
              obtain ⟨r0, r1, r2, r3⟩ := J.out.2.1.two
              go_wp2_with fail
              refine (KQ.out _).mono ?_
              rintro e w5 ⟨rfl, bb⟩
              have J := Lib.hid (J.out.below bb)
              clear bb
              obtain ⟨t0, t1, t2, t3⟩ := J.out.1.two
              obtain ⟨r0, r1, r2, r3⟩ := J.out.2.1.two
              have J := Lib.hid (J.out.setQ Q)
              obtain ⟨t0, t1, t2, t3⟩ := J.out.1.two
              obtain ⟨r0, r1, r2, r3⟩ := J.out.2.1.two
              go_wp2_with fail
              refine (KC.out _).mono ?_
              rintro e w5 ⟨rfl, bb⟩
              have J := Lib.hid (J.out.below bb)
              clear bb
              obtain ⟨t0, t1, t2, t3⟩ := J.out.1.two
              obtain ⟨r0, r1, r2, r3⟩ := J.out.2.1.two
              have J := Lib.hid (J.out.setP cN)
              obtain ⟨t0, t1, t2, t3⟩ := J.out.1.two
              obtain ⟨r0, r1, r2, r3⟩ := J.out.2.1.two
              have J := Lib.hid (J.out.setP (-cN))
              obtain ⟨t0, t1, t2, t3⟩ := J.out.1.two
              obtain ⟨r0, r1, r2, r3⟩ := J.out.2.1.two
              go_wp2
              have Z := J.out.1.set2 (.int .i64 (0)) (.int .i64 (0))
              obtain ⟨k0, k1, _, _⟩ := Z.two
              refine bodyPost_ret (v := noV) ?_ rfl ⟨by rw [HV.out], (J.out.2.2.setCell (p := ⟨w.heap.size, 0, none⟩) (by simp) _).setCell (p := ⟨w.heap.size, 1, none⟩) (by simp) _⟩
              simp [results, Tryd.results31, go_sem, k0, k1]
            · have HV := Lib.hid hv
              clear hv
              have KT := Lib.hid KT
              obtain ⟨t0, t1, t2, t3⟩ := J.out.1.two
              obtain ⟨r0, r1, r2, r3⟩ := J.out.2.1.two
              go_wp2_with fail
              refine (KQ.out _).mono ?_
              rintro e w5 ⟨rfl, bb⟩
              have J := Lib.hid (J.out.below bb)
              clear bb
              obtain ⟨t0, t1, t2, t3⟩ := J.out.1.two
              obtain ⟨r0, r1, r2, r3⟩ := J.out.2.1.two
              have J := Lib.hid (J.out.setQ Q)
              obtain ⟨t0, t1, t2, t3⟩ := J.out.1.two
              obtain ⟨r0, r1, r2, r3⟩ := J.out.2.1.two
              go_wp2_with fail
              refine (KC.out _).mono ?_
              rintro e w5 ⟨rfl, bb⟩
              have J := Lib.hid (J.out.below bb)
              clear bb
              obtain ⟨t0, t1, t2, t3⟩ := J.out.1.two
              obtain ⟨r0, r1, r2, r3⟩ := J.out.2.1.two
              have J := Lib.hid (J.out.setP cN)
              obtain ⟨t0, t1, t2, t3⟩ := J.out.1.two
              obtain ⟨r0, r1, r2, r3⟩ := J.out.2.1.two
              have J := Lib.hid (J.out.setP (-cN))
              obtain ⟨t0, t1, t2, t3⟩ := J.out.1.two
              obtain ⟨r0, r1, r2, r3⟩ := J.out.2.1.two
              go_wp2_with fail
              refine (KT.out _).mono ?_
              rintro e w5 ⟨rfl, bb⟩
              have J := Lib.hid (J.out.below bb)
              clear bb
              obtain ⟨t0, t1, t2, t3⟩ := J.out.1.two
              obtain ⟨r0, r1, r2, r3⟩ := J.out.2.1.two
              go_wp2
              have Z := J.out.1.set2 (.int .i64 ((-cN))) (.int .i64 (Q))
              obtain ⟨k0, k1, _, _⟩ := Z.two
              refine bodyPost_ret (v := okV (-cN) Q) ?_ rfl ⟨by rw [HV.out], (J.out.2.2.setCell (p := ⟨w.heap.size, 0, none⟩) (by simp) _).setCell (p := ⟨w.heap.size, 1, none⟩) (by simp) _⟩
              simp [results, Tryd.results31, go_sem, k0, k1]
            · have HV := Lib.hid hv
              clear hv
              have KT := Lib.hid KT
              obtain ⟨t0, t1, t2, t3⟩ := J.out.1.two
              obtain ⟨r0, r1, r2, r3⟩ := J.out.2.1.two
              go_wp2_with fail
              refine (KQ.out _).mono ?_
              rintro e w5 ⟨rfl, bb⟩
              have J := Lib.hid (J.out.below bb)
              clear bb
              obtain ⟨t0, t1, t2, t3⟩ := J.out.1.two
              obtain ⟨r0, r1, r2, r3⟩ := J.out.2.1.two
              have J := Lib.hid (J.out.setQ Q)
              obtain ⟨t0, t1, t2, t3⟩ := J.out.1.two
              obtain ⟨r0, r1, r2, r3⟩ := J.out.2.1.two
              go_wp2_with fail
              refine (KC.out _).mono ?_
              rintro e w5 ⟨rfl, bb⟩
              have J := Lib.hid (J.out.below bb)
              clear bb
              obtain ⟨t0, t1, t2, t3⟩ := J.out.1.two
              obtain ⟨r0, r1, r2, r3⟩ := J.out.2.1.two
              have J := Lib.hid (J.out.setP cN)
              obtain ⟨t0, t1, t2, t3⟩ := J.out.1.two
              obtain ⟨r0, r1, r2, r3⟩ := J.out.2.1.two
              have J := Lib.hid (J.out.setP (-cN))
              obtain ⟨t0, t1, t2, t3⟩ := J.out.1.two
              obtain ⟨r0, r1, r2, r3⟩ := J.out.2.1.two
              go_wp2_with fail
              refine (KT.out _).mono ?_
              rintro e w5 ⟨rfl, bb⟩
              have J := Lib.hid (J.out.below bb)
              clear bb
              obtain ⟨t0, t1, t2, t3⟩ := J.out.1.two
              obtain ⟨r0, r1, r2, r3⟩ := J.out.2.1.two
              go_wp2
              have Z := J.out.1.set2 (.int .i64 (0)) (.int .i64 (0))
              obtain ⟨k0, k1, _, _⟩ := Z.two
              refine bodyPost_ret (v := noV) ?_ rfl ⟨by rw [HV.out], (J.out.2.2.setCell (p := ⟨w.heap.size, 0, none⟩) (by simp) _).setCell (p := ⟨w.heap.size, 1, none⟩) (by simp) _⟩
              simp [results, Tryd.results31, go_sem, k0, k1]
          · simp only [if_false, Bool.false_eq_true] at hP
            subst hP
            rcases hend with ⟨rfl, hv⟩ | ⟨rfl, T, KT, ⟨heq, hv⟩ | ⟨heq, hv⟩⟩
            · have HV := Lib.hid hv
              clear hv
              obtain ⟨t0, t1, t2, t3⟩ := J.out.1.two
              obtain ⟨r0, r1, r2, r3⟩ := J.out.2.1.two
              go_wp2_with fail
              refine (KQ.out _).mono ?_
              rintro e w5 ⟨rfl, bb⟩
              have J := Lib.hid (J.out.below bb)
              clear bb
              obtain ⟨t0, t1, t2, t3⟩ := J.out.1.two
              obtain ⟨r0, r1, r2, r3⟩ := J.out.2.1.two
              have J := Lib.hid (J.out.setQ Q)
              obtain ⟨t0, t1, t2, t3⟩ := J.out.1.two
              obtain ⟨r0, r1, r2, r3⟩ := J.out.2.1.two
              go_wp2_with fail
              refine (KC.out _).mono ?_
              rintro e w5 ⟨rfl, bb⟩
              have J := Lib.hid (J.out.below bb)
              clear bb
              obtain ⟨t0, t1, t2, t3⟩ := J.out.1.two
              obtain ⟨r0, r1, r2, r3⟩ := J.out.2.1.two
              have J := Lib.hid (J.out.setP P)
              obtain ⟨t0, t1, t2, t3⟩ := J.out.1.two
              obtain ⟨r0, r1, r2, r3⟩ := J.out.2.1.two
              go_wp2
              have Z := J.out.1.set2 (.int .i64 (0)) (.int .i64 (0))
              obtain ⟨k0, k1, _, _⟩ := Z.two
              refine bodyPost_ret (v := noV) ?_ rfl ⟨by rw [HV.out], (J.out.2.2.setCell (p := ⟨w.heap.size, 0, none⟩) (by simp) _).setCell (p := ⟨w.heap.size, 1, none⟩) (by simp) _⟩
              simp [results, Tryd.results31, go_sem, k0, k1]
            · have HV := Lib.hid hv
              clear hv
              have KT := Lib.hid KT
              obtain ⟨t0, t1, t2, t3⟩ := J.out.1.two
              obtain ⟨r0, r1, r2, r3⟩ := J.out.2.1.two
              go_wp2_with fail
              refine (KQ.out _).mono ?_
              rintro e w5 ⟨rfl, bb⟩
              have J := Lib.hid (J.out.below bb)
              clear bb
              obtain ⟨t0, t1, t2, t3⟩ := J.out.1.two
              obtain ⟨r0, r1, r2, r3⟩ := J.out.2.1.two
              have J := Lib.hid (J.out.setQ Q)
              obtain ⟨t0, t1, t2, t3⟩ := J.out.1.two
              obtain ⟨r0, r1, r2, r3⟩ := J.out.2.1.two
              go_wp2_with fail
              refine (KC.out _).mono ?_
              rintro e w5 ⟨rfl, bb⟩
              have J := Lib.hid (J.out.below bb)
              clear bb
              obtain ⟨t0, t1, t2, t3⟩ := J.out.1.two
              obtain ⟨r0, r1, r2, r3⟩ := J.out.2.1.two
              have J := Lib.hid (J.out.setP P)
              obtain ⟨t0, t1, t2, t3⟩ := J.out.1.two
              obtain ⟨r0, r1, r2, r3⟩ := J.out.2.1.two
              go_wp2_with fail
              refine (KT.out _).mono ?_
              rintro e w5 ⟨rfl, bb⟩
              have J := Lib.hid (J.out.below bb)
              clear bb
              obtain ⟨t0, t1, t2, t3⟩ := J.out.1.two
              obtain ⟨r0, r1, r2, r3⟩ := J.out.2.1.two
              go_wp2
              have Z := J.out.1.set2 (.int .i64 (P)) (.int .i64 (Q))
              obtain ⟨k0, k1, _, _⟩ := Z.two
              refine bodyPost_ret (v := okV P Q) ?_ rfl ⟨by rw [HV.out], (J.out.2.2.setCell (p := ⟨w.heap.size, 0, none⟩) (by simp) _).setCell (p := ⟨w.heap.size, 1, none⟩) (by simp) _⟩
              simp [results, Tryd.results31, go_sem, k0, k1]
            · have HV := Lib.hid hv
              clear hv
              have KT := Lib.hid KT
              obtain ⟨t0, t1, t2, t3⟩ := J.out.1.two
              obtain ⟨r0, r1, r2, r3⟩ := J.out.2.1.two
              go_wp2_with fail
              refine (KQ.out _).mono ?_
              rintro e w5 ⟨rfl, bb⟩
              have J := Lib.hid (J.out.below bb)
              clear bb
              obtain ⟨t0, t1, t2, t3⟩ := J.out.1.two
              obtain ⟨r0, r1, r2, r3⟩ := J.out.2.1.two
              have J := Lib.hid (J.out.setQ Q)
              obtain ⟨t0, t1, t2, t3⟩ := J.out.1.two
              obtain ⟨r0, r1, r2, r3⟩ := J.out.2.1.two
              go_wp2_with fail
              refine (KC.out _).mono ?_
              rintro e w5 ⟨rfl, bb⟩
              have J := Lib.hid (J.out.below bb)
              clear bb
              obtain ⟨t0, t1, t2, t3⟩ := J.out.1.two
              obtain ⟨r0, r1, r2, r3⟩ := J.out.2.1.two
              have J := Lib.hid (J.out.setP P)
              obtain ⟨t0, t1, t2, t3⟩ := J.out.1.two
              obtain ⟨r0, r1, r2, r3⟩ := J.out.2.1.two
              go_wp2_with fail
              refine (KT.out _).mono ?_
              rintro e w5 ⟨rfl, bb⟩
              have J := Lib.hid (J.out.below bb)
              clear bb
              obtain ⟨t0, t1, t2, t3⟩ := J.out.1.two
              obtain ⟨r0, r1, r2, r3⟩ := J.out.2.1.two
              go_wp2
              have Z := J.out.1.set2 (.int .i64 (0)) (.int .i64 (0))
              obtain ⟨k0, k1, _, _⟩ := Z.two
              refine bodyPost_ret (v := noV) ?_ rfl ⟨by rw [HV.out], (J.out.2.2.setCell (p := ⟨w.heap.size, 0, none⟩) (by simp) _).setCell (p := ⟨w.heap.size, 1, none⟩) (by simp) _⟩
              simp [results, Tryd.results31, go_sem, k0, k1]
        · have HV : Hid (prV s.data.toList = noV) := prV_no fun hp => hB ((prOk_cut hp).2.1 HC.out.2.2)
          have hB2 : cntB (cutR s.data.toList) = false := by simpa using hB
          rw [hB2] at KQ
          clear hw hB hB2
          generalize cntN (cutR s.data.toList) = Q at *
          obtain ⟨q0, q1⟩ := hqb
          obtain ⟨t0, t1, t2, t3⟩ := J.out.1.two
          obtain ⟨r0, r1, r2, r3⟩ := J.out.2.1.two
          go_wp2_with fail
          refine (KQ.out _).mono ?_
          rintro e w5 ⟨rfl, bb⟩
          have J := Lib.hid (J.out.below bb)
          clear bb
          obtain ⟨t0, t1, t2, t3⟩ := J.out.1.two
          obtain ⟨r0, r1, r2, r3⟩ := J.out.2.1.two
          go_wp2
          have Z := J.out.1.set2 (.int .i64 (0)) (.int .i64 (0))
          obtain ⟨k0, k1, _, _⟩ := Z.two
          refine bodyPost_ret (v := noV) ?_ rfl ⟨by rw [HV.out], (J.out.2.2.setCell (p := ⟨w.heap.size, 0, none⟩) (by simp) _).setCell (p := ⟨w.heap.size, 1, none⟩) (by simp) _⟩
          simp [results, Tryd.results31, go_sem, k0, k1]
      · have hb : ((s[k].toNat : Int) == 47) = false := by
          have : (s[k].toNat : Int) ≠ 47 := fun hc => h47 (UInt8.toNat_inj.1 (by show s[k].toNat = 47; omega))
          simpa using this
        have HK2 : Hid (∀ j, j < k + 1 → s.data.toList[j]? ≠ some 47) := by
          intro j hj
          rcases Nat.lt_or_ge j k with h | h
          · exact HK.out j h
          · obtain rfl : j = k := by omega
            rw [hget]; simpa using h47
        clear hget h47
        go_wp2
        go_roundw
        case rel => exact ⟨k + 1, by omega, rfl, by go_num, HK2, J⟩
        case measure => simp [intOf]; omega
    · obtain rfl : k = s.size := by omega
      have HC : Hid (cutA s.data.toList = s.data.toList ∧ cutF s.data.toList = false) := by
        refine cut_miss fun j hj => ?_
        rcases Nat.lt_or_ge j s.size with h | h
        · exact HK.out j h hj
        · rw [List.getElem?_eq_none (by rw [HL.out]; exact h)] at hj; cases hj
      obtain ⟨mi, bd, cN, P, cB, hway, ⟨d0, d1⟩, hP, KC, hend⟩ := end_ways s s 1 HS.out HC.out.1 (by unfold cutQ; rw [HC.out.2]; rfl) (by omega)
      have KC := Lib.hid KC
      rcases hway with ⟨rfl, hz, rfl⟩ | ⟨rfl, hpos, h45, rfl⟩ | ⟨rfl, hpos, h45, rfl⟩
      · simp only [if_false, Bool.false_eq_true] at hP
        subst hP
        rcases hend with ⟨rfl, hv⟩ | ⟨rfl, T, KT, ⟨heq, hv⟩ | ⟨heq, hv⟩⟩
        · have HV := Lib.hid hv
          clear hv
          obtain ⟨t0, t1, t2, t3⟩ := J.out.1.two
          obtain ⟨r0, r1, r2, r3⟩ := J.out.2.1.two
          go_wp2_with fail
          refine (KC.out _).mono ?_
          rintro e w5 ⟨rfl, bb⟩
          have J := Lib.hid (J.out.below bb)
          clear bb
          obtain ⟨t0, t1, t2, t3⟩ := J.out.1.two
          obtain ⟨r0, r1, r2, r3⟩ := J.out.2.1.two
          have J := Lib.hid (J.out.setP P)
          obtain ⟨t0, t1, t2, t3⟩ := J.out.1.two
          obtain ⟨r0, r1, r2, r3⟩ := J.out.2.1.two
          go_wp2
          have Z := J.out.1.set2 (.int .i64 (0)) (.int .i64 (0))
          obtain ⟨k0, k1, _, _⟩ := Z.two
          refine bodyPost_ret (v := noV) ?_ rfl ⟨by rw [HV.out], (J.out.2.2.setCell (p := ⟨w.heap.size, 0, none⟩) (by simp) _).setCell (p := ⟨w.heap.size, 1, none⟩) (by simp) _⟩
          simp [results, Tryd.results31, go_sem, k0, k1]
        · have HV := Lib.hid hv
          clear hv
          have KT := Lib.hid KT
          obtain ⟨t0, t1, t2, t3⟩ := J.out.1.two
          obtain ⟨r0, r1, r2, r3⟩ := J.out.2.1.two
          go_wp2_with fail
          refine (KC.out _).mono ?_
          rintro e w5 ⟨rfl, bb⟩
          have J := Lib.hid (J.out.below bb)
          clear bb
          obtain ⟨t0, t1, t2, t3⟩ := J.out.1.two
          obtain ⟨r0, r1, r2, r3⟩ := J.out.2.1.two
          have J := Lib.hid (J.out.setP P)
          obtain ⟨t0, t1, t2, t3⟩ := J.out.1.two
          obtain ⟨r0, r1, r2, r3⟩ := J.out.2.1.two
          go_wp2_with fail
          refine (KT.out _).mono ?_
          rintro e w5 ⟨rfl, bb⟩
          have J := Lib.hid (J.out.below bb)
          clear bb
          obtain ⟨t0, t1, t2, t3⟩ := J.out.1.two
          obtain ⟨r0, r1, r2, r3⟩ := J.out.2.1.two
          go_wp2
          have Z := J.out.1.set2 (.int .i64 (P)) (.int .i64 (1))
          obtain ⟨k0, k1, _, _⟩ := Z.two
          refine bodyPost_ret (v := okV P 1) ?_ rfl ⟨by rw [HV.out], (J.out.2.2.setCell (p := ⟨w.heap.size, 0, none⟩) (by simp) _).setCell (p := ⟨w.heap.size, 1, none⟩) (by simp) _⟩
          simp [results, Tryd.results31, go_sem, k0, k1]
        · have HV := Lib.hid hv
          clear hv
          have KT := Lib.hid KT
          obtain ⟨t0, t1, t2, t3⟩ := J.out.1.two
          obtain ⟨r0, r1, r2, r3⟩ := J.out.2.1.two
          go_wp2_with fail
          refine (KC.out _).mono ?_
          rintro e w5 ⟨rfl, bb⟩
          have J := Lib.hid (J.out.below bb)
          clear bb
          obtain ⟨t0, t1, t2, t3⟩ := J.out.1.two
          obtain ⟨r0, r1, r2, r3⟩ := J.out.2.1.two
          have J := Lib.hid (J.out.setP P)
          obtain ⟨t0, t1, t2, t3⟩ := J.out.1.two
          obtain ⟨r0, r1, r2, r3⟩ := J.out.2.1.two
          go_wp2_with fail
          refine (KT.out _).mono ?_
          rintro e w5 ⟨rfl, bb⟩
          have J := Lib.hid (J.out.below bb)
          clear bb
          obtain ⟨t0, t1, t2, t3⟩ := J.out.1.two
          obtain ⟨r0, r1, r2, r3⟩ := J.out.2.1.two
          go_wp2
          have Z := J.out.1.set2 (.int .i64 (0)) (.int .i64 (0))
          obtain ⟨k0, k1, _, _⟩ := Z.two
          refine bodyPost_ret (v := noV) ?_ rfl ⟨by rw [HV.out], (J.out.2.2.setCell (p := ⟨w.heap.size, 0, none⟩) (by simp) _).setCell (p := ⟨w.heap.size, 1, none⟩) (by simp) _⟩
          simp [results, Tryd.results31, go_sem, k0, k1]
      · simp only [if_true] at hP
        subst hP
        rcases hend with ⟨rfl, hv⟩ | ⟨rfl, T, KT, ⟨heq, hv⟩ | ⟨heq, hv⟩⟩
        · have HV := Lib.hid hv
          clear hv
          obtain ⟨t0, t1, t2, t3⟩ := J.out.1.two
          obtain ⟨r0, r1, r2, r3⟩ := J.out.2.1.two
          go_wp2_with fail
          refine (KC.out _).mono ?_
          rintro e w5 ⟨rfl, bb⟩
          have J := Lib.hid (J.out.below bb)
          clear bb
          obtain ⟨t0, t1, t2, t3⟩ := J.out.1.two
          obtain ⟨r0, r1, r2, r3⟩ := J.out.2.1.two
          have J := Lib.hid (J.out.setP cN)
          obtain ⟨t0, t1, t2, t3⟩ := J.out.1.two
          obtain ⟨r0, r1, r2, r3⟩ := J.out.2.1.two
          have J := Lib.hid (J.out.setP (-cN))
          obtain ⟨t0, t1, t2, t3⟩ := J.out.1.two
          obtain ⟨r0, r1, r2, r3⟩ := J.out.2.1.two
          go_wp2
          have Z := J.out.1.set2 (.int .i64 (0)) (.int .i64 (0))
          obtain ⟨k0, k1, _, _⟩ := Z.two
          refine bodyPost_ret (v := noV) ?_ rfl ⟨by rw [HV.out], (J.out.2.2.setCell (p := ⟨w.heap.size, 0, none⟩) (by simp) _).setCell (p := ⟨w.heap.size, 1, none⟩) (by simp) _⟩
          simp [results, Tryd.results31, go_sem, k0, k1]
        · have HV := Lib.hid hv
          clear hv
          have KT := Lib.hid KT
          obtain ⟨t0, t1, t2, t3⟩ := J.out.1.two
          obtain ⟨r0, r1, r2, r3⟩ := J.out.2.1.two
          go_wp2_with fail
          refine (KC.out _).mono ?_
          rintro e w5 ⟨rfl, bb⟩
          have J := Lib.hid (J.out.below bb)
          clear bb
          obtain ⟨t0, t1, t2, t3⟩ := J.out.1.two
          obtain ⟨r0, r1, r2, r3⟩ := J.out.2.1.two
          have J := Lib.hid (J.out.setP cN)
          obtain ⟨t0, t1, t2, t3⟩ := J.out.1.two
          obtain ⟨r0, r1, r2, r3⟩ := J.out.2.1.two
          have J := Lib.hid (J.out.setP (-cN))
          obtain ⟨t0, t1, t2, t3⟩ := J.out.1.two
          obtain ⟨r0, r1, r2, r3⟩ := J.out.2.1.two
          go_wp2_with fail
          refine (KT.out _).mono ?_
          rintro e w5 ⟨rfl, bb⟩
          have J := Lib.hid (J.out.below bb)
          clear bb
          obtain ⟨t0, t1, t2, t3⟩ := J.out.1.two
          obtain ⟨r0, r1, r2, r3⟩ := J.out.2.1.two
          go_wp2
          have Z := J.out.1.set2 (.int .i64 ((-cN))) (.int .i64 (1))
          obtain ⟨k0, k1, _, _⟩ := Z.two
          refine bodyPost_ret (v := okV (-cN) 1) ?_ rfl ⟨by rw [HV.out], (J.out.2.2.setCell (p := ⟨w.heap.size, 0, none⟩) (by simp) _).setCell (p := ⟨w.heap.size, 1, none⟩) (by simp) _⟩
          simp [results, Tryd.results31, go_sem, k0, k1]
        · have HV := Lib.hid hv
          clear hv
          have KT := Lib.hid KT
          obtain ⟨t0, t1, t2, t3⟩ := J.out.1.two
          obtain ⟨r0, r1, r2, r3⟩ := J.out.2.1.two
          go_wp2_with fail
          refine (KC.out _).mono ?_
          rintro e w5 ⟨rfl, bb⟩
          have J := Lib.hid (J.out.below bb)
          clear bb
          obtain ⟨t0, t1, t2, t3⟩ := J.out.1.two
          obtain ⟨r0, r1, r2, r3⟩ := J.out.2.1.two
          have J := Lib.hid (J.out.setP cN)
          obtain ⟨t0, t1, t2, t3⟩ := J.out.1.two
          obtain ⟨r0, r1, r2, r3⟩ := J.out.2.1.two
          have J := Lib.hid (J.out.setP (-cN))
          obtain ⟨t0, t1, t2, t3⟩ := J.out.1.two
          obtain ⟨r0, r1, r2, r3⟩ := J.out.2.1.two
          go_wp2_with fail
          refine (KT.out _).mono ?_
          rintro e w5 ⟨rfl, bb⟩
          have J := Lib.hid (J.out.below bb)
          clear bb
          obtain ⟨t0, t1, t2, t3⟩ := J.out.1.two
          obtain ⟨r0, r1, r2, r3⟩ := J.out.2.1.two
          go_wp2
          have Z := J.out.1.set2 (.int .i64 (0)) (.int .i64 (0))
          obtain ⟨k0, k1, _, _⟩ := Z.two
          refine bodyPost_ret (v := noV) ?_ rfl ⟨by rw [HV.out], (J.out.2.2.setCell (p := ⟨w.heap.size, 0, none⟩) (by simp) _).setCell (p := ⟨w.heap.size, 1, none⟩) (by simp) _⟩
          simp [results, Tryd.results31, go_sem, k0, k1]
      · simp only [if_false, Bool.false_eq_true] at hP
        subst hP
        rcases hend with ⟨rfl, hv⟩ | ⟨rfl, T, KT, ⟨heq, hv⟩ | ⟨heq, hv⟩⟩
        · have HV := Lib.hid hv
          clear hv
          obtain ⟨t0, t1, t2, t3⟩ := J.out.1.two
          obtain ⟨r0, r1, r2, r3⟩ := J.out.2.1.two
          go_wp2_with fail
          refine (KC.out _).mono ?_
          rintro e w5 ⟨rfl, bb⟩
          have J := Lib.hid (J.out.below bb)
          clear bb
          obtain ⟨t0, t1, t2, t3⟩ := J.out.1.two
          obtain ⟨r0, r1, r2, r3⟩ := J.out.2.1.two
          have J := Lib.hid (J.out.setP P)
          obtain ⟨t0, t1, t2, t3⟩ := J.out.1.two
          obtain ⟨r0, r1, r2, r3⟩ := J.out.2.1.two
          go_wp2
          have Z := J.out.1.set2 (.int .i64 (0)) (.int .i64 (0))
          obtain ⟨k0, k1, _, _⟩ := Z.two
          refine bodyPost_ret (v := noV) ?_ rfl ⟨by rw [HV.out], (J.out.2.2.setCell (p := ⟨w.heap.size, 0, none⟩) (by simp) _).setCell (p := ⟨w.heap.size, 1, none⟩) (by simp) _⟩
          simp [results, Tryd.results31, go_sem, k0, k1]
        · have HV := Lib.hid hv
          clear hv
          have KT := Lib.hid KT
          obtain ⟨t0, t1, t2, t3⟩ := J.out.1.two
          obtain ⟨r0, r1, r2, r3⟩ := J.out.2.1.two
          go_wp2_with fail
          refine (KC.out _).mono ?_
          rintro e w5 ⟨rfl, bb⟩
          have J := Lib.hid (J.out.below bb)
          clear bb
          obtain ⟨t0, t1, t2, t3⟩ := J.out.1.two
          obtain ⟨r0, r1, r2, r3⟩ := J.out.2.1.two
          have J := Lib.hid (J.out.setP P)
          obtain ⟨t0, t1, t2, t3⟩ := J.out.1.two
          obtain ⟨r0, r1, r2, r3⟩ := J.out.2.1.two
          go_wp2_with fail
          refine (KT.out _).mono ?_
          rintro e w5 ⟨rfl, bb⟩
          have J := Lib.hid (J.out.below bb)
          clear bb
          obtain ⟨t0, t1, t2, t3⟩ := J.out.1.two
          obtain ⟨r0, r1, r2, r3⟩ := J.out.2.1.two
          go_wp2
          have Z := J.out.1.set2 (.int .i64 (P)) (.int .i64 (1))
          obtain ⟨k0, k1, _, _⟩ := Z.two
          refine bodyPost_ret (v := okV P 1) ?_ rfl ⟨by rw [HV.out], (J.out.2.2.setCell (p := ⟨w.heap.size, 0, none⟩) (by simp) _).setCell (p := ⟨w.heap.size, 1, none⟩) (by simp) _⟩
          simp [results, Tryd.results31, go_sem, k0, k1]
        · have HV := Lib.hid hv
          clear hv
          have KT := Lib.hid KT
          obtain ⟨t0, t1, t2, t3⟩ := J.out.1.two
          obtain ⟨r0, r1, r2, r3⟩ := J.out.2.1.two
          go_wp2_with fail
          refine (KC.out _).mono ?_
          rintro e w5 ⟨rfl, bb⟩
          have J := Lib.hid (J.out.below bb)
          clear bb
          obtain ⟨t0, t1, t2, t3⟩ := J.out.1.two
          obtain ⟨r0, r1, r2, r3⟩ := J.out.2.1.two
          have J := Lib.hid (J.out.setP P)
          obtain ⟨t0, t1, t2, t3⟩ := J.out.1.two
          obtain ⟨r0, r1, r2, r3⟩ := J.out.2.1.two
          go_wp2_with fail
          refine (KT.out _).mono ?_
          rintro e w5 ⟨rfl, bb⟩
          have J := Lib.hid (J.out.below bb)
          clear bb
          obtain ⟨t0, t1, t2, t3⟩ := J.out.1.two
          obtain ⟨r0, r1, r2, r3⟩ := J.out.2.1.two
          go_wp2
          have Z := J.out.1.set2 (.int .i64 (0)) (.int .i64 (0))
          obtain ⟨k0, k1, _, _⟩ := Z.two
          refine bodyPost_ret (v := noV) ?_ rfl ⟨by rw [HV.out], (J.out.2.2.setCell (p := ⟨w.heap.size, 0, none⟩) (by simp) _).setCell (p := ⟨w.heap.size, 1, none⟩) (by simp) _⟩
          simp [results, Tryd.results31, go_sem, k0, k1]
end Go.Proofs.YtbnpbflndnjmcaaDoor

