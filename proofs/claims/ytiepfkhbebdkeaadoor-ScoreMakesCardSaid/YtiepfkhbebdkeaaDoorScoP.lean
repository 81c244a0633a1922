/- Parse of package score. -/
import Derived.Test.YtiepfkhbebdkeaaDoorScoO
namespace Go.Proofs.YtiepfkhbebdkeaaDoor
open Go.RowKit
set_option linter.unusedVariables false
set_option linter.unusedSimpArgs false
set_option maxRecDepth 100000

theorem toList_ne {a b : ByteArray} (h : a ≠ b) : ¬ a.toList = b.toList := fun e => h (ByteArray.ext (Array.toList_inj.1 (by rw [← ByteArray.toList_eq, ← ByteArray.toList_eq, e])))
set_option maxHeartbeats 1000000 in
theorem sco_parse (s : ByteArray) (hs : s.size ≤ 1000) (w : World) (ht : Tab w) (he : Ers w) :
    Calls Tryd.prog 24 #[.string s] w fun e w' => e = .returned (spV s.data.toList) ∧ Below w.heap.size w w' := by
  have hl : s.data.toList.length = s.size := by simp
  have hlA : (bstr (cutA s.data.toList)).size ≤ 1000 := by rw [bstr_size']; have := cutA_len s.data.toList; omega
  have hlB : (bstr (cutB s.data.toList)).size ≤ 1000 := by rw [bstr_size']; have := cutB_len s.data.toList; omega
  have J0 := Lib.hid ((Keeps.start w).alloc #[.int .i64 0, .int .i64 0] 23)
  have T0 := Lib.hid (ht.alloc (.cells #[.int .i64 0, .int .i64 0] 23))
  have E0 := Lib.hid (he.alloc (.cells #[.int .i64 0, .int .i64 0] 23))
  have KC := Lib.hid (fun W => str_cut s (by unfold maxLen; omega) W)
  have KA := Lib.hid (fun W hE => str_atoi (bstr (cutA s.data.toList)) hlA W hE)
  have KB := Lib.hid (fun W hE => str_atoi (bstr (cutB s.data.toList)) hlB W hE)
  have iP := atN_i64 (bstr (cutA s.data.toList)).data.toList
  have iQ := atN_i64 (bstr (cutB s.data.toList)).data.toList
  have HAT : Hid (spOk s.data.toList → ScoOk (atN (bstr (cutA s.data.toList)).data.toList) (atN (bstr (cutB s.data.toList)).data.toList) ∧ stx (atN (bstr (cutA s.data.toList)).data.toList) (atN (bstr (cutB s.data.toList)).data.toList) = s.data.toList) := fun h => spOk_at h
  generalize atN (bstr (cutA s.data.toList)).data.toList = P at *
  generalize atN (bstr (cutB s.data.toList)).data.toList = Q at *
  have KI := Lib.hid (fun W => sco_is P Q iP iQ W)
  have KT := Lib.hid (fun W hT => sco_text P Q iP iQ W hT)
  generalize bstr (cutA s.data.toList) = sA at *
  generalize bstr (cutB s.data.toList) = sB at *
  generalize cutF s.data.toList = sF at *
  clear hl hlA hlB iP iQ ht he
  by_cases hv : ScoOk P Q
  · rw [scoB_of hv] at KI
    by_cases hx : stx P Q = s.data.toList
    · have HR := Lib.hid (spV_ok hv hx)
      have e : bstr (stx P Q) = s := by rw [hx]
      rw [e] at KT
      clear e hx hv HAT
      generalize spV s.data.toList = V at *
      go_enter Tryd.func24, Tryd.ntmps24
      go_wp2_with fail
      refine (KC.out _).mono ?_
      rintro e w1 ⟨rfl, hd⟩
      have hb : Below (w.alloc (.cells #[.int .i64 0, .int .i64 0] 23)).heap.size (w.alloc (.cells #[.int .i64 0, .int .i64 0] 23)) w1 := by
        obtain ⟨n, hn⟩ := hd
        rw [hn]
        exact below_drewN (Below.refl _ _) n
      have J1 := Lib.hid (J0.out.below hb)
      have T1 := Lib.hid (T0.out.below hb)
      have E1 := Lib.hid (E0.out.below hb)
      clear hd hb
      go_wp2_with fail
      refine (KA.out _ E1.out).mono ?_
      rintro e w2 ⟨ev, rfl, b⟩
      have J2 := Lib.hid (J1.out.below b)
      have T2 := Lib.hid (T1.out.below b)
      have E2 := Lib.hid (E1.out.below b)
      clear b
      go_wp2_with fail
      refine (KB.out _ E2.out).mono ?_
      rintro e w3 ⟨ev2, rfl, b⟩
      have J3 := Lib.hid ((J2.out.below b).alloc #[.int .i64 P, .int .i64 Q] 23)
      have T3 := Lib.hid ((T2.out.below b).alloc (.cells #[.int .i64 P, .int .i64 Q] 23))
      obtain ⟨x0, x1, x2, x3⟩ := J3.out.head.two
      clear b
      go_wp2_with fail
      refine (KI.out _).mono ?_
      rintro e w4 ⟨rfl, b4⟩
      have J4 := Lib.hid (J3.out.below b4)
      have T4 := Lib.hid (T3.out.below b4)
      clear x0 x1 x2 x3 b4
      obtain ⟨x0, x1, x2, x3⟩ := J4.out.head.two
      go_wp2_with fail
      refine (KT.out _ T4.out).mono ?_
      rintro e w5 ⟨rfl, b5⟩
      have J5 := Lib.hid (J4.out.below b5)
      obtain ⟨x0, x1, x2, x3⟩ := J5.out.head.two
      obtain ⟨y0, y1, y2, y3⟩ := J5.out.tail.head.two
      clear b5
      go_wp2
      have Z := J5.out.tail.head.set2 (.int .i64 P) (.int .i64 Q)
      obtain ⟨k0, k1, _, _⟩ := Z.two
      refine bodyPost_ret (v := .tuple #[.agg #[.int .i64 P, .int .i64 Q], .int .i64 0]) ?_ rfl ⟨HR.out, ?_⟩
      · simp [results, Tryd.results24, go_sem, k0, k1]
      · exact ((J5.out.2.1).setCell (p := ⟨w.heap.size, 0, none⟩) (by simp) _).setCell (p := ⟨w.heap.size, 1, none⟩) (by simp) _
    · have HR := Lib.hid (spV_no (l := s.data.toList) (fun h => hx (HAT.out h).2))
      have hn : bstr (stx P Q) ≠ s := fun e => hx (by rw [← e])
      have hn2 := toList_ne hn
      have hn3 : ((bstr (stx P Q)).toList == s.toList) = false := by simpa using hn2
      clear hn hx hv HAT
      generalize spV s.data.toList = V at *
      generalize bstr (stx P Q) = T at *
      go_enter Tryd.func24, Tryd.ntmps24
      go_wp2_with fail
      refine (KC.out _).mono ?_
      rintro e w1 ⟨rfl, hd⟩
      have hb : Below (w.alloc (.cells #[.int .i64 0, .int .i64 0] 23)).heap.size (w.alloc (.cells #[.int .i64 0, .int .i64 0] 23)) w1 := by
        obtain ⟨n, hn⟩ := hd
        rw [hn]
        exact below_drewN (Below.refl _ _) n
      have J1 := Lib.hid (J0.out.below hb)
      have T1 := Lib.hid (T0.out.below hb)
      have E1 := Lib.hid (E0.out.below hb)
      clear hd hb
      go_wp2_with fail
      refine (KA.out _ E1.out).mono ?_
      rintro e w2 ⟨ev, rfl, b⟩
      have J2 := Lib.hid (J1.out.below b)
      have T2 := Lib.hid (T1.out.below b)
      have E2 := Lib.hid (E1.out.below b)
      clear b
      go_wp2_with fail
      refine (KB.out _ E2.out).mono ?_
      rintro e w3 ⟨ev2, rfl, b⟩
      have J3 := Lib.hid ((J2.out.below b).alloc #[.int .i64 P, .int .i64 Q] 23)
      have T3 := Lib.hid ((T2.out.below b).alloc (.cells #[.int .i64 P, .int .i64 Q] 23))
      obtain ⟨x0, x1, x2, x3⟩ := J3.out.head.two
      clear b
      go_wp2_with fail
      refine (KI.out _).mono ?_
      rintro e w4 ⟨rfl, b4⟩
      have J4 := Lib.hid (J3.out.below b4)
      have T4 := Lib.hid (T3.out.below b4)
      clear x0 x1 x2 x3 b4
      obtain ⟨x0, x1, x2, x3⟩ := J4.out.head.two
      go_wp2_with fail
      refine (KT.out _ T4.out).mono ?_
      rintro e w5 ⟨rfl, b5⟩
      have J5 := Lib.hid (J4.out.below b5)
      obtain ⟨y0, y1, y2, y3⟩ := J5.out.tail.head.two
      clear b5
      go_wp2
      have Z := J5.out.tail.head.set2 (.int .i64 0) (.int .i64 0)
      obtain ⟨k0, k1, _, _⟩ := Z.two
      refine bodyPost_ret (v := .tuple #[.agg #[.int .i64 0, .int .i64 0], .int .i64 20]) ?_ rfl ⟨HR.out, ?_⟩
      · simp [results, Tryd.results24, go_sem, k0, k1]
      · exact ((J5.out.2.1).setCell (p := ⟨w.heap.size, 0, none⟩) (by simp) _).setCell (p := ⟨w.heap.size, 1, none⟩) (by simp) _
  · have HR := Lib.hid (spV_no (l := s.data.toList) (fun h => hv (HAT.out h).1))
    rw [scoB_no hv] at KI
    clear hv HAT KT
    generalize spV s.data.toList = V at *
    go_enter Tryd.func24, Tryd.ntmps24
    go_wp2_with fail
    refine (KC.out _).mono ?_
    rintro e w1 ⟨rfl, hd⟩
    have hb : Below (w.alloc (.cells #[.int .i64 0, .int .i64 0] 23)).heap.size (w.alloc (.cells #[.int .i64 0, .int .i64 0] 23)) w1 := by
      obtain ⟨n, hn⟩ := hd
      rw [hn]
      exact below_drewN (Below.refl _ _) n
    have J1 := Lib.hid (J0.out.below hb)
    have T1 := Lib.hid (T0.out.below hb)
    have E1 := Lib.hid (E0.out.below hb)
    clear hd hb
    go_wp2_with fail
    refine (KA.out _ E1.out).mono ?_
    rintro e w2 ⟨ev, rfl, b⟩
    have J2 := Lib.hid (J1.out.below b)
    have T2 := Lib.hid (T1.out.below b)
    have E2 := Lib.hid (E1.out.below b)
    clear b
    go_wp2_with fail
    refine (KB.out _ E2.out).mono ?_
    rintro e w3 ⟨ev2, rfl, b⟩
    have J3 := Lib.hid ((J2.out.below b).alloc #[.int .i64 P, .int .i64 Q] 23)
    have T3 := Lib.hid ((T2.out.below b).alloc (.cells #[.int .i64 P, .int .i64 Q] 23))
    obtain ⟨x0, x1, x2, x3⟩ := J3.out.head.two
    clear b
    go_wp2_with fail
    refine (KI.out _).mono ?_
    rintro e w4 ⟨rfl, b4⟩
    have J4 := Lib.hid (J3.out.below b4)
    have T4 := Lib.hid (T3.out.below b4)
    clear x0 x1 x2 x3 b4
    obtain ⟨x0, x1, x2, x3⟩ := J4.out.head.two
    obtain ⟨y0, y1, y2, y3⟩ := J4.out.tail.head.two
    go_wp2
    have Z := J4.out.tail.head.set2 (.int .i64 0) (.int .i64 0)
    obtain ⟨k0, k1, _, _⟩ := Z.two
    refine bodyPost_ret (v := .tuple #[.agg #[.int .i64 0, .int .i64 0], .int .i64 20]) ?_ rfl ⟨HR.out, ?_⟩
    · simp [results, Tryd.results24, go_sem, k0, k1]
    · exact ((J4.out.2.1).setCell (p := ⟨w.heap.size, 0, none⟩) (by simp) _).setCell (p := ⟨w.heap.size, 1, none⟩) (by simp) _
end Go.Proofs.YtiepfkhbebdkeaaDoor
