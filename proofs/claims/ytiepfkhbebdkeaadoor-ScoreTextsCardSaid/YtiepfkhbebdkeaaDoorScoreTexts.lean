/- Statement ScoreTexts: whatever the input is, the Go function returns true and each argument reads as it did. No condition. -/
import Derived.Test.YtiepfkhbebdkeaaDoorRows
import Derived.Test.YtiepfkhbebdkeaaDoorScoF
import Derived.Test.YtiepfkhbebdkeaaDoorBase
import Derived.Test.YtiepfkhbebdkeaaDoorTie
import Derived.Test.YtiepfkhbebdkeaaDoorCards
import Derived.SevenTiedAt
import Derived.ProofKit
import Derived.OpenShut
namespace Go.Proofs.YtiepfkhbebdkeaaDoor.scoreTexts
open Go.ChangeShapes Go.WideShapes Go.ChangeAt Go.RowKit
set_option linter.unusedVariables false

theorem own : ownKnob Tryd.prog.godebug = none := by kernel_rfl
theorem laid : laidOutB Tryd.prog = true := by kernel_rfl

set_option maxHeartbeats 4000000 in
theorem walk (p q : Int) (hp : I64 p) (hq : I64 q) (s : ByteArray) (hs : s.size ≤ 9223372036854775807) (w : World) (hT : Tab w ∧ Ers w) :
    Calls Tryd.prog 7 #[.agg #[.int .i64 p, .int .i64 q], .string s] w fun e w' => e = .returned (.bool true) ∧ Below w.heap.size w w' := by
  have J0 := Lib.hid ((Keeps.start w).alloc #[.int .i64 p, .int .i64 q] 23)
  have J := J0
  have T := Lib.hid (hT.1.alloc (.cells #[.int .i64 p, .int .i64 q] 23))
  have E := Lib.hid (hT.2.alloc (.cells #[.int .i64 p, .int .i64 q] 23))
  have KL := Lib.hid (fun W hT hE => lives13 W hT hE)
  clear hT
  by_cases h100 : 100 < s.size
  · have h1 : (100 : Int) < (s.size : Int) := by omega
    clear hp hq
    go_enter Tryd.func7, Tryd.ntmps7
    go_wp2_with fail
    refine (KL.out _ T.out E.out).mono ?_
    rintro r w1 ⟨rfl, b⟩
    go_wp2
    go_ret
    exact ⟨rfl, (J.out.below b).2.1⟩
  have h1 : ¬ (100 : Int) < (s.size : Int) := by omega
  have hl : s.data.toList.length = s.size := by simp
  have KT := Lib.hid (fun W hT => sco_text p q hp hq W hT)
  have KU := Lib.hid (fun W => ref13_text p q hp hq W)
  have KI := Lib.hid (fun W => ref13_is p q W)
  have KP := Lib.hid (fun W hT hE => sco_parse (bstr (stx p q)) (by rw [bstr_size']; have := stx_len p q; omega) W hT hE)
  have KS := Lib.hid (fun W hT hE => sco_parse s (by omega) W hT hE)
  have KR := Lib.hid (fun W => ref13_parse s (by omega) W)
  have HPV : Hid (ScoOk p q → Ending.returned (spV (bstr (stx p q)).data.toList) = .returned (.tuple #[.agg #[.int .i64 p, .int .i64 q], .int .i64 0])) := fun h => (spV_ok h rfl).symm
  have HPN : Hid (¬ ScoOk p q → Ending.returned (spV (bstr (stx p q)).data.toList) = .returned (.tuple #[.agg #[.int .i64 0, .int .i64 0], .int .i64 20])) := fun h => (spV_no (by rw [stx_no h]; exact spOk_miss (by simp))).symm
  have HQ : Hid (spOk s.data.toList → ∃ P Q, ScoOk P Q ∧ stx P Q = s.data.toList) := fun h => ⟨_, _, h.1, h.2⟩
  by_cases h1 : ScoOk p q
  · rw [HPV.out h1] at KP
    rw [scoB_of h1] at KI
    clear HPV HPN h1
    generalize bstr (stx p q) = T1 at *
    by_cases h2 : spOk s.data.toList
    · obtain ⟨P, Q, hv, hx⟩ := HQ.out h2
      have KC := Lib.hid (fun W hT => sco_text P Q ⟨by have := hv.2.2.1; omega, by have := hv.2.2.2.1; omega⟩ ⟨by have := hv.1; omega, by have := hv.2.1; omega⟩ W hT)
      rw [show bstr (stx P Q) = s by rw [hx]] at KC
      rw [← spV_ok hv hx] at KS KR
      clear hv hx h2 HQ hl hp hq
      go_enter Tryd.func7, Tryd.ntmps7
      obtain ⟨y0, y1, _, _⟩ := J0.out.head.two
      go_wp2_with fail
      refine (KT.out _ T.out).mono ?_
      rintro r w1 ⟨rfl, b⟩
      have J := Lib.hid ((J.out.below b))
      have T := Lib.hid ((T.out.below b))
      have E := Lib.hid ((E.out.below b))
      clear b
      go_wp2_with fail
      refine (KP.out _ T.out E.out).mono ?_
      rintro r w2 ⟨rfl, b⟩
      have J := Lib.hid ((J.out.below b).alloc #[.int .i64 p, .int .i64 q] 23)
      have T := Lib.hid ((T.out.below b).alloc (.cells #[.int .i64 p, .int .i64 q] 23))
      have E := Lib.hid ((E.out.below b).alloc (.cells #[.int .i64 p, .int .i64 q] 23))
      clear b
      go_wp2_with fail
      refine (KS.out _ T.out E.out).mono ?_
      rintro r w3 ⟨rfl, b⟩
      have J := Lib.hid ((J.out.below b).alloc #[.int .i64 P, .int .i64 Q] 23)
      have T := Lib.hid ((T.out.below b).alloc (.cells #[.int .i64 P, .int .i64 Q] 23))
      have E := Lib.hid ((E.out.below b).alloc (.cells #[.int .i64 P, .int .i64 Q] 23))
      clear b
      go_wp2_with fail
      refine (KR.out _).mono ?_
      rintro r w4 ⟨rfl, b⟩
      have J := Lib.hid ((J.out.below b).alloc #[.int .i64 P, .int .i64 Q] 23)
      have T := Lib.hid ((T.out.below b).alloc (.cells #[.int .i64 P, .int .i64 Q] 23))
      have E := Lib.hid ((E.out.below b).alloc (.cells #[.int .i64 P, .int .i64 Q] 23))
      clear b
      clear y0 y1
      obtain ⟨d0, d1, _, _⟩ := J.out.head.two
      obtain ⟨c0, c1, _, _⟩ := J.out.tail.head.two
      obtain ⟨b0, b1, _, _⟩ := J.out.tail.tail.head.two
      obtain ⟨y0, y1, _, _⟩ := J.out.tail.tail.tail.head.two
      go_wp2_with fail
      refine (KU.out _).mono ?_
      rintro r w5 ⟨rfl, b⟩
      have J := Lib.hid ((J.out.below b))
      have T := Lib.hid ((T.out.below b))
      have E := Lib.hid ((E.out.below b))
      clear b
      clear y0 y1 b0 b1 c0 c1 d0 d1
      obtain ⟨d0, d1, _, _⟩ := J.out.head.two
      obtain ⟨c0, c1, _, _⟩ := J.out.tail.head.two
      obtain ⟨b0, b1, _, _⟩ := J.out.tail.tail.head.two
      obtain ⟨y0, y1, _, _⟩ := J.out.tail.tail.tail.head.two
      go_wp2_with fail
      refine (KC.out _ T.out).mono ?_
      rintro r w6 ⟨rfl, b⟩
      have J := Lib.hid ((J.out.below b))
      have T := Lib.hid ((T.out.below b))
      have E := Lib.hid ((E.out.below b))
      clear b
      clear y0 y1 b0 b1 c0 c1 d0 d1
      obtain ⟨b0, b1, _, _⟩ := J.out.tail.tail.head.two
      obtain ⟨y0, y1, _, _⟩ := J.out.tail.tail.tail.head.two
      go_wp2_with fail
      refine (KI.out _).mono ?_
      rintro r w7 ⟨rfl, b⟩
      have J := Lib.hid ((J.out.below b))
      have T := Lib.hid ((T.out.below b))
      have E := Lib.hid ((E.out.below b))
      clear b
      try clear c0 c1 d0 d1
      clear y0 y1 b0 b1
      obtain ⟨b0, b1, _, _⟩ := J.out.tail.tail.head.two
      obtain ⟨y0, y1, _, _⟩ := J.out.tail.tail.tail.head.two
      go_wp2_with fail
      refine (KL.out _ T.out E.out).mono ?_
      rintro r w8 ⟨rfl, b⟩
      have J := Lib.hid ((J.out.below b))
      have T := Lib.hid ((T.out.below b))
      have E := Lib.hid ((E.out.below b))
      clear b
      go_wp2
      go_ret
      exact ⟨rfl, J.out.2.1⟩
    · rw [← spV_no h2] at KS KR
      clear h2 HQ hl hp hq
      go_enter Tryd.func7, Tryd.ntmps7
      obtain ⟨y0, y1, _, _⟩ := J0.out.head.two
      go_wp2_with fail
      refine (KT.out _ T.out).mono ?_
      rintro r w1 ⟨rfl, b⟩
      have J := Lib.hid ((J.out.below b))
      have T := Lib.hid ((T.out.below b))
      have E := Lib.hid ((E.out.below b))
      clear b
      go_wp2_with fail
      refine (KP.out _ T.out E.out).mono ?_
      rintro r w2 ⟨rfl, b⟩
      have J := Lib.hid ((J.out.below b).alloc #[.int .i64 p, .int .i64 q] 23)
      have T := Lib.hid ((T.out.below b).alloc (.cells #[.int .i64 p, .int .i64 q] 23))
      have E := Lib.hid ((E.out.below b).alloc (.cells #[.int .i64 p, .int .i64 q] 23))
      clear b
      go_wp2_with fail
      refine (KS.out _ T.out E.out).mono ?_
      rintro r w3 ⟨rfl, b⟩
      have J := Lib.hid ((J.out.below b).alloc #[.int .i64 0, .int .i64 0] 23)
      have T := Lib.hid ((T.out.below b).alloc (.cells #[.int .i64 0, .int .i64 0] 23))
      have E := Lib.hid ((E.out.below b).alloc (.cells #[.int .i64 0, .int .i64 0] 23))
      clear b
      go_wp2_with fail
      refine (KR.out _).mono ?_
      rintro r w4 ⟨rfl, b⟩
      have J := Lib.hid ((J.out.below b).alloc #[.int .i64 0, .int .i64 0] 23)
      have T := Lib.hid ((T.out.below b).alloc (.cells #[.int .i64 0, .int .i64 0] 23))
      have E := Lib.hid ((E.out.below b).alloc (.cells #[.int .i64 0, .int .i64 0] 23))
      clear b
      clear y0 y1
      obtain ⟨d0, d1, _, _⟩ := J.out.head.two
      obtain ⟨c0, c1, _, _⟩ := J.out.tail.head.two
      obtain ⟨b0, b1, _, _⟩ := J.out.tail.tail.head.two
      obtain ⟨y0, y1, _, _⟩ := J.out.tail.tail.tail.head.two
      go_wp2_with fail
      refine (KU.out _).mono ?_
      rintro r w5 ⟨rfl, b⟩
      have J := Lib.hid ((J.out.below b))
      have T := Lib.hid ((T.out.below b))
      have E := Lib.hid ((E.out.below b))
      clear b
      clear y0 y1 b0 b1 c0 c1 d0 d1
      obtain ⟨d0, d1, _, _⟩ := J.out.head.two
      obtain ⟨c0, c1, _, _⟩ := J.out.tail.head.two
      obtain ⟨b0, b1, _, _⟩ := J.out.tail.tail.head.two
      obtain ⟨y0, y1, _, _⟩ := J.out.tail.tail.tail.head.two
      go_wp2_with fail
      refine (KI.out _).mono ?_
      rintro r w7 ⟨rfl, b⟩
      have J := Lib.hid ((J.out.below b))
      have T := Lib.hid ((T.out.below b))
      have E := Lib.hid ((E.out.below b))
      clear b
      try clear c0 c1 d0 d1
      clear y0 y1 b0 b1
      obtain ⟨b0, b1, _, _⟩ := J.out.tail.tail.head.two
      obtain ⟨y0, y1, _, _⟩ := J.out.tail.tail.tail.head.two
      go_wp2_with fail
      refine (KL.out _ T.out E.out).mono ?_
      rintro r w8 ⟨rfl, b⟩
      have J := Lib.hid ((J.out.below b))
      have T := Lib.hid ((T.out.below b))
      have E := Lib.hid ((E.out.below b))
      clear b
      go_wp2
      go_ret
      exact ⟨rfl, J.out.2.1⟩
  · rw [HPN.out h1] at KP
    rw [scoB_no h1] at KI
    clear HPV HPN h1
    generalize bstr (stx p q) = T1 at *
    by_cases h2 : spOk s.data.toList
    · obtain ⟨P, Q, hv, hx⟩ := HQ.out h2
      have KC := Lib.hid (fun W hT => sco_text P Q ⟨by have := hv.2.2.1; omega, by have := hv.2.2.2.1; omega⟩ ⟨by have := hv.1; omega, by have := hv.2.1; omega⟩ W hT)
      rw [show bstr (stx P Q) = s by rw [hx]] at KC
      rw [← spV_ok hv hx] at KS KR
      clear hv hx h2 HQ hl hp hq
      go_enter Tryd.func7, Tryd.ntmps7
      obtain ⟨y0, y1, _, _⟩ := J0.out.head.two
      go_wp2_with fail
      refine (KT.out _ T.out).mono ?_
      rintro r w1 ⟨rfl, b⟩
      have J := Lib.hid ((J.out.below b))
      have T := Lib.hid ((T.out.below b))
      have E := Lib.hid ((E.out.below b))
      clear b
      go_wp2_with fail
      refine (KP.out _ T.out E.out).mono ?_
      rintro r w2 ⟨rfl, b⟩
      have J := Lib.hid ((J.out.below b).alloc #[.int .i64 0, .int .i64 0] 23)
      have T := Lib.hid ((T.out.below b).alloc (.cells #[.int .i64 0, .int .i64 0] 23))
      have E := Lib.hid ((E.out.below b).alloc (.cells #[.int .i64 0, .int .i64 0] 23))
      clear b
      go_wp2_with fail
      refine (KS.out _ T.out E.out).mono ?_
      rintro r w3 ⟨rfl, b⟩
      have J := Lib.hid ((J.out.below b).alloc #[.int .i64 P, .int .i64 Q] 23)
      have T := Lib.hid ((T.out.below b).alloc (.cells #[.int .i64 P, .int .i64 Q] 23))
      have E := Lib.hid ((E.out.below b).alloc (.cells #[.int .i64 P, .int .i64 Q] 23))
      clear b
      go_wp2_with fail
      refine (KR.out _).mono ?_
      rintro r w4 ⟨rfl, b⟩
      have J := Lib.hid ((J.out.below b).alloc #[.int .i64 P, .int .i64 Q] 23)
      have T := Lib.hid ((T.out.below b).alloc (.cells #[.int .i64 P, .int .i64 Q] 23))
      have E := Lib.hid ((E.out.below b).alloc (.cells #[.int .i64 P, .int .i64 Q] 23))
      clear b
      clear y0 y1
      obtain ⟨d0, d1, _, _⟩ := J.out.head.two
      obtain ⟨c0, c1, _, _⟩ := J.out.tail.head.two
      obtain ⟨b0, b1, _, _⟩ := J.out.tail.tail.head.two
      obtain ⟨y0, y1, _, _⟩ := J.out.tail.tail.tail.head.two
      go_wp2_with fail
      refine (KU.out _).mono ?_
      rintro r w5 ⟨rfl, b⟩
      have J := Lib.hid ((J.out.below b))
      have T := Lib.hid ((T.out.below b))
      have E := Lib.hid ((E.out.below b))
      clear b
      clear y0 y1 b0 b1 c0 c1 d0 d1
      obtain ⟨d0, d1, _, _⟩ := J.out.head.two
      obtain ⟨c0, c1, _, _⟩ := J.out.tail.head.two
      obtain ⟨b0, b1, _, _⟩ := J.out.tail.tail.head.two
      obtain ⟨y0, y1, _, _⟩ := J.out.tail.tail.tail.head.two
      go_wp2_with fail
      refine (KC.out _ T.out).mono ?_
      rintro r w6 ⟨rfl, b⟩
      have J := Lib.hid ((J.out.below b))
      have T := Lib.hid ((T.out.below b))
      have E := Lib.hid ((E.out.below b))
      clear b
      clear y0 y1 b0 b1 c0 c1 d0 d1
      obtain ⟨b0, b1, _, _⟩ := J.out.tail.tail.head.two
      obtain ⟨y0, y1, _, _⟩ := J.out.tail.tail.tail.head.two
      go_wp2_with fail
      refine (KI.out _).mono ?_
      rintro r w7 ⟨rfl, b⟩
      have J := Lib.hid ((J.out.below b))
      have T := Lib.hid ((T.out.below b))
      have E := Lib.hid ((E.out.below b))
      clear b
      try clear c0 c1 d0 d1
      clear y0 y1 b0 b1
      obtain ⟨b0, b1, _, _⟩ := J.out.tail.tail.head.two
      obtain ⟨y0, y1, _, _⟩ := J.out.tail.tail.tail.head.two
      go_wp2_with fail
      refine (KL.out _ T.out E.out).mono ?_
      rintro r w8 ⟨rfl, b⟩
      have J := Lib.hid ((J.out.below b))
      have T := Lib.hid ((T.out.below b))
      have E := Lib.hid ((E.out.below b))
      clear b
      go_wp2
      go_ret
      exact ⟨rfl, J.out.2.1⟩
    · rw [← spV_no h2] at KS KR
      clear h2 HQ hl hp hq
      go_enter Tryd.func7, Tryd.ntmps7
      obtain ⟨y0, y1, _, _⟩ := J0.out.head.two
      go_wp2_with fail
      refine (KT.out _ T.out).mono ?_
      rintro r w1 ⟨rfl, b⟩
      have J := Lib.hid ((J.out.below b))
      have T := Lib.hid ((T.out.below b))
      have E := Lib.hid ((E.out.below b))
      clear b
      go_wp2_with fail
      refine (KP.out _ T.out E.out).mono ?_
      rintro r w2 ⟨rfl, b⟩
      have J := Lib.hid ((J.out.below b).alloc #[.int .i64 0, .int .i64 0] 23)
      have T := Lib.hid ((T.out.below b).alloc (.cells #[.int .i64 0, .int .i64 0] 23))
      have E := Lib.hid ((E.out.below b).alloc (.cells #[.int .i64 0, .int .i64 0] 23))
      clear b
      go_wp2_with fail
      refine (KS.out _ T.out E.out).mono ?_
      rintro r w3 ⟨rfl, b⟩
      have J := Lib.hid ((J.out.below b).alloc #[.int .i64 0, .int .i64 0] 23)
      have T := Lib.hid ((T.out.below b).alloc (.cells #[.int .i64 0, .int .i64 0] 23))
      have E := Lib.hid ((E.out.below b).alloc (.cells #[.int .i64 0, .int .i64 0] 23))
      clear b
      go_wp2_with fail
      refine (KR.out _).mono ?_
      rintro r w4 ⟨rfl, b⟩
      have J := Lib.hid ((J.out.below b).alloc #[.int .i64 0, .int .i64 0] 23)
      have T := Lib.hid ((T.out.below b).alloc (.cells #[.int .i64 0, .int .i64 0] 23))
      have E := Lib.hid ((E.out.below b).alloc (.cells #[.int .i64 0, .int .i64 0] 23))
      clear b
      clear y0 y1
      obtain ⟨d0, d1, _, _⟩ := J.out.head.two
      obtain ⟨c0, c1, _, _⟩ := J.out.tail.head.two
      obtain ⟨b0, b1, _, _⟩ := J.out.tail.tail.head.two
      obtain ⟨y0, y1, _, _⟩ := J.out.tail.tail.tail.head.two
      go_wp2_with fail
      refine (KU.out _).mono ?_
      rintro r w5 ⟨rfl, b⟩
      have J := Lib.hid ((J.out.below b))
      have T := Lib.hid ((T.out.below b))
      have E := Lib.hid ((E.out.below b))
      clear b
      clear y0 y1 b0 b1 c0 c1 d0 d1
      obtain ⟨d0, d1, _, _⟩ := J.out.head.two
      obtain ⟨c0, c1, _, _⟩ := J.out.tail.head.two
      obtain ⟨b0, b1, _, _⟩ := J.out.tail.tail.head.two
      obtain ⟨y0, y1, _, _⟩ := J.out.tail.tail.tail.head.two
      go_wp2_with fail
      refine (KI.out _).mono ?_
      rintro r w7 ⟨rfl, b⟩
      have J := Lib.hid ((J.out.below b))
      have T := Lib.hid ((T.out.below b))
      have E := Lib.hid ((E.out.below b))
      clear b
      try clear c0 c1 d0 d1
      clear y0 y1 b0 b1
      obtain ⟨b0, b1, _, _⟩ := J.out.tail.tail.head.two
      obtain ⟨y0, y1, _, _⟩ := J.out.tail.tail.tail.head.two
      go_wp2_with fail
      refine (KL.out _ T.out E.out).mono ?_
      rintro r w8 ⟨rfl, b⟩
      have J := Lib.hid ((J.out.below b))
      have T := Lib.hid ((T.out.below b))
      have E := Lib.hid ((E.out.below b))
      clear b
      go_wp2
      go_ret
      exact ⟨rfl, J.out.2.1⟩

set_option maxRecDepth 100000 in
theorem lifted (os : Os) (started : os.Started) (H : Type) (enc : TypeId × Value → H) :
    ReturnsInHanded {} Tryd.checked os 7 .any (fun w args => (Rows.scoreTextsSpec.pre enc Tryd.prog Tryd.f7 [] false w args ∧ laidMetH Tryd.prog lst13 w) ∧ sizedMet enc Tryd.prog Tryd.f7 (OpenSpec.ofChange Rows.scoreTextsSpec) false w args) (Rows.scoreTextsSpec.post enc Tryd.prog Tryd.f7 false true false false) := by
  refine returnsInHanded_of_change_and (C := Tryd.checked) (X := fun w _ => laidMetH Tryd.prog lst13 w) (fun _ _ _ hh h => h.of_heap hh) own started (by kernel_rfl) Tryd.func7
    (ChangeSpec.witness_shaped (enc := enc) (C := Tryd.checked) (os := os) (X := fun w _ => laidMetH Tryd.prog lst13 w) false (World.doorLaid Tryd.prog 400 os) #[.agg #[.int .i64 0, .int .i64 0], .string ⟨#[]⟩] 8 rfl (World.shaped_of_RefB (by kernel_rfl) (by kernel_rfl)) (by kernel_rfl) (by kernel_rfl) (by kernel_rfl) (door_met13 os _)) ?_
  intro W base args ds gs before hval0 hW _ _ hL _
  have hT := tab_of13 hL
  have hval : ∀ (j : Nat) t v, Tryd.f7.params[j]? = some t → args[j]? = some v → Value.okWide Tryd.prog W .any base t v := hval0
  have hW' := hW
  obtain ⟨p, q, hA0, hV, rfl, hfz, hnd⟩ := hW
  obtain ⟨rfl, rfl⟩ := trodVars_none hV
  have hA : DataW.TrodAll enc Tryd.prog W 0 (fun _ => true) true Tryd.f7.params.toList args.toList ds p := hA0
  rw [Tryd.params7] at hA hval
  obtain ⟨v0, vs0, d0, ds0, p0, q0, hargs, rfl, rfl, h0, r0⟩ := trodAll_cons hA
  obtain ⟨v1, vs1, d1, ds1, p1, q1, rfl, rfl, rfl, h1, r1⟩ := trodAll_cons r0
  obtain ⟨rfl, rfl, rfl⟩ := trodAll_nil r1
  obtain rfl : args = #[v0, v1] := by cases args; simp_all
  obtain ⟨a0, b0, rfl, w0, z0⟩ := open_two Tryd.underlying23 Tryd.underlying3 Tryd.underlying3 (by kernel_rfl) (by kernel_rfl) (hval 0 23 v0 rfl rfl) h0
  obtain ⟨s1, rfl, _, _, z1⟩ := Go.ChangeMaps.open_string Tryd.underlying9 (hval 1 9 v1 rfl rfl) h1
  refine (walk a0 b0 (i64_of_wf w0) (i64_of_wf z0) s1 z1 W hT).mono fun e W' ⟨he, hg⟩ => ?_
  subst he
  exact ⟨_, rfl, law_post laid (by rw [Tryd.params7]; exact (by decide +kernel)) rfl (by kernel_rfl) Tryd.underlying4 rfl hW' hg⟩

theorem over : Rows.scoreTextsRow.holds Tryd.pinned (OpenSpec.ofChange Rows.scoreTextsSpec) :=
  OpenClaim.holds_of_wide 7 Tryd.f7 rfl rfl rfl rfl rfl rfl rfl ⟨rfl, rfl, rfl, rfl, rfl⟩ rfl rfl rfl rfl rfl (by kernel_rfl) Tryd.func7 (by kernel_rfl)
    (of_decide_eq_true (by kernel_rfl)) (by unfold Func.isWrapper; first | (rw [if_pos (by decide +kernel)]; kernel_rfl) | (rw [if_neg (by decide +kernel)]; exact ⟨rfl, rfl⟩))
    (fun os started H enc _ => lifted os started H enc)
theorem proved : Rows.ScoreTextsCardSaid :=
  Claim7.holds_tied_plain_at .later [] [.data, .data, .data, .sentinel, .sentinel] true Rows.scoreTextsCard.stood.harness true
    over (fun _ h => by cases h) (by kernel_rfl) (fun _ h => by cases h) scoreTexts_row_tie rfl ⟨rfl, rfl⟩ (by kernel_rfl) rfl
    (fun f fn hf hfn => by
      obtain rfl : f = 7 := Option.some.inj ((show Tryd.prog.funcNamed Rows.scoreTextsRow.func = some 7 by kernel_rfl).symm.trans hf) |>.symm
      obtain rfl : fn = Tryd.f7 := (Option.some.inj (Tryd.func7.symm.trans hfn)).symm
      exact ⟨by kernel_rfl, fun j t ht => by
        rw [Tryd.params7] at ht
        have hm : t ∈ [23, 9] := by simpa using Array.mem_of_getElem? ht
        have hall : ([23, 9].all fun u => !Tryd.prog.wantsStandIn u) = true := by kernel_rfl
        exact (show Tryd.prog.wantsStandIn t = false by simpa using List.all_eq_true.1 hall t hm)⟩)
    (by kernel_rfl)
end Go.Proofs.YtiepfkhbebdkeaaDoor.scoreTexts
