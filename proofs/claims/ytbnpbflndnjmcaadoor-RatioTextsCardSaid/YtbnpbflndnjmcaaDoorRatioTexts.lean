/- Statement RatioTexts: whatever the input is, the Go function returns true and each argument reads as it did. No condition. -/
import Derived.Test.YtbnpbflndnjmcaaDoorRows
import Derived.Test.YtbnpbflndnjmcaaDoorRatL
import Derived.Test.YtbnpbflndnjmcaaDoorRatF
import Derived.Test.YtbnpbflndnjmcaaDoorRatW
import Derived.Test.YtbnpbflndnjmcaaDoorBase
import Derived.Test.YtbnpbflndnjmcaaDoorTie
import Derived.Test.YtbnpbflndnjmcaaDoorCards
import Derived.SevenTiedAt
import Derived.ProofKit
import Derived.OpenShut
namespace Go.Proofs.YtbnpbflndnjmcaaDoor.ratioTexts
open Go.ChangeShapes Go.WideShapes Go.ChangeAt Go.RowKit
set_option linter.unusedVariables false

theorem own : ownKnob Tryd.prog.godebug = none := by kernel_rfl
theorem laid : laidOutB Tryd.prog = true := by kernel_rfl

theorem str_self (b : ByteArray) : (b.toList == b.toList) = true := by simp
theorem long (x y : Int) (s : ByteArray) (hs : s.size ≤ maxLen) (h : 100 < s.size) (w : World) (hT : Tab w) :
    Calls Tryd.prog 8 #[.agg #[.int .i64 x, .int .i64 y], .string s] w fun e w' => e = .returned (.bool true) ∧ Below w.heap.size w w' := by
  unfold maxLen at hs
  have J0 := Lib.hid ((Keeps.start w).alloc #[.int .i64 x, .int .i64 y] 23)
  have T0 := Lib.hid (hT.alloc (.cells #[.int .i64 x, .int .i64 y] 23))
  clear hT
  go_enter Tryd.func8, Tryd.ntmps8
  go_wp2_with fail
  refine (lives3 _ T0.out).mono ?_
  rintro e w1 ⟨rfl, bb⟩
  go_wp2
  go_ret
  exact ⟨rfl, (J0.out.below bb).2.1⟩
set_option maxRecDepth 100000 in
set_option maxHeartbeats 4000000 in
theorem way_FF (x y A0 A1 A2 P Q : Int) (s tt : ByteArray) (w : World) (hT : Tab w) (hs : s.size ≤ maxLen) (hz : ¬ 100 < s.size)
    (kt : ∀ W, Tab W → Calls Tryd.prog 29 #[.agg #[.int .i64 x, .int .i64 y]] W fun e w' => e = .returned (.string tt) ∧ Below W.heap.size W w')
    (kt2 : ∀ W, Calls Tryd.prog 32 #[.agg #[.int .i64 x, .int .i64 y]] W fun e w' => e = .returned (.string tt) ∧ Below W.heap.size W w')
    (kp : ∀ W, Tab W → Calls Tryd.prog 30 #[.string tt] W fun e w' => e = .returned (.tuple #[.agg #[.int .i64 A0, .int .i64 A1], .int .i64 A2]) ∧ Below W.heap.size W w')
    (ks : ∀ W, Tab W → Calls Tryd.prog 30 #[.string s] W fun e w' => e = .returned (.tuple #[.agg #[.int .i64 0, .int .i64 0], .int .i64 30]) ∧ Below W.heap.size W w')
    (kr : ∀ W, Calls Tryd.prog 31 #[.string s] W fun e w' => e = .returned (.tuple #[.agg #[.int .i64 0, .int .i64 0], .int .i64 30]) ∧ Below W.heap.size W w')
    (ki : ∀ W, Calls Tryd.prog 13 #[.agg #[.int .i64 x, .int .i64 y]] W fun e w' => e = .returned (.bool false) ∧ Below W.heap.size W w')
    (he : tt.toList.isEmpty = true)
    : Calls Tryd.prog 8 #[.agg #[.int .i64 x, .int .i64 y], .string s] w fun e w' => e = .returned (.bool true) ∧ Below w.heap.size w w' := by
  have KT := Lib.hid kt
  have KT2 := Lib.hid kt2
  have KP := Lib.hid kp
  have KS := Lib.hid ks
  have KR := Lib.hid kr
  have KI := Lib.hid ki
  clear kt kt2 kp ks kr ki
  unfold maxLen at hs
  have q1 := str_self tt
  have q2 := str_self s
  have z1 : (x == x) = true := by simp
  have z2 : (y == y) = true := by simp
  have z3 : (P != P) = false := by simp
  have z4 : (Q != Q) = false := by simp
  have J0 := Lib.hid ((Keeps.start w).alloc #[.int .i64 x, .int .i64 y] 23)
  have T0 := Lib.hid (hT.alloc (.cells #[.int .i64 x, .int .i64 y] 23))
  clear hT
  go_enter Tryd.func8, Tryd.ntmps8
  go_wp2_with fail
  refine (KT.out _ T0.out).mono ?_
  rintro e w1 ⟨rfl, bb⟩
  have J := Lib.hid (J0.out.below bb)
  have T := Lib.hid (T0.out.below bb)
  clear bb
  go_wp2_with fail
  refine (KP.out _ T.out).mono ?_
  rintro e w1 ⟨rfl, bb⟩
  have J := Lib.hid ((J.out.below bb).alloc #[.int .i64 A0, .int .i64 A1] 23)
  have T := Lib.hid ((T.out.below bb).alloc (.cells #[.int .i64 A0, .int .i64 A1] 23))
  clear bb
  go_wp2_with fail
  refine (KS.out _ T.out).mono ?_
  rintro e w2 ⟨rfl, bb⟩
  have J := Lib.hid ((J.out.below bb).alloc #[.int .i64 0, .int .i64 0] 23)
  have T := Lib.hid ((T.out.below bb).alloc (.cells #[.int .i64 0, .int .i64 0] 23))
  clear bb
  go_wp2_with fail
  refine (KR.out _).mono ?_
  rintro e w3 ⟨rfl, bb⟩
  have J := Lib.hid ((J.out.below bb).alloc #[.int .i64 0, .int .i64 0] 23)
  have T := Lib.hid ((T.out.below bb).alloc (.cells #[.int .i64 0, .int .i64 0] 23))
  clear bb
  obtain ⟨c0, c1, _, _⟩ := J.out.head.two
  obtain ⟨b0, b1, _, _⟩ := J.out.tail.head.two
  obtain ⟨a0, a1, _, _⟩ := J.out.tail.tail.head.two
  obtain ⟨r0, r1, _, _⟩ := J.out.tail.tail.tail.head.two
  go_wp2_with fail
  refine (lives3 _ T.out).mono ?_
  rintro e w4 ⟨rfl, bb⟩
  have J := Lib.hid (J.out.below bb)
  have T := Lib.hid (T.out.below bb)
  clear bb
  obtain ⟨c0, c1, _, _⟩ := J.out.head.two
  obtain ⟨b0, b1, _, _⟩ := J.out.tail.head.two
  obtain ⟨a0, a1, _, _⟩ := J.out.tail.tail.head.two
  obtain ⟨r0, r1, _, _⟩ := J.out.tail.tail.tail.head.two
  go_wp2_with fail
  refine (KT2.out _).mono ?_
  rintro e w5 ⟨rfl, bb⟩
  have J := Lib.hid (J.out.below bb)
  have T := Lib.hid (T.out.below bb)
  clear bb
  obtain ⟨c0, c1, _, _⟩ := J.out.head.two
  obtain ⟨b0, b1, _, _⟩ := J.out.tail.head.two
  obtain ⟨a0, a1, _, _⟩ := J.out.tail.tail.head.two
  obtain ⟨r0, r1, _, _⟩ := J.out.tail.tail.tail.head.two
  go_wp2_with fail
  refine (KI.out _).mono ?_
  rintro e w7 ⟨rfl, bb⟩
  have J := Lib.hid (J.out.below bb)
  clear bb
  obtain ⟨c0, c1, _, _⟩ := J.out.head.two
  obtain ⟨b0, b1, _, _⟩ := J.out.tail.head.two
  obtain ⟨a0, a1, _, _⟩ := J.out.tail.tail.head.two
  obtain ⟨r0, r1, _, _⟩ := J.out.tail.tail.tail.head.two
  go_wp2
  go_ret
  exact ⟨rfl, J.out.2.1⟩
set_option maxRecDepth 100000 in
set_option maxHeartbeats 4000000 in
theorem way_FT (x y A0 A1 A2 P Q : Int) (s tt : ByteArray) (w : World) (hT : Tab w) (hs : s.size ≤ maxLen) (hz : ¬ 100 < s.size)
    (kt : ∀ W, Tab W → Calls Tryd.prog 29 #[.agg #[.int .i64 x, .int .i64 y]] W fun e w' => e = .returned (.string tt) ∧ Below W.heap.size W w')
    (kt2 : ∀ W, Calls Tryd.prog 32 #[.agg #[.int .i64 x, .int .i64 y]] W fun e w' => e = .returned (.string tt) ∧ Below W.heap.size W w')
    (kp : ∀ W, Tab W → Calls Tryd.prog 30 #[.string tt] W fun e w' => e = .returned (.tuple #[.agg #[.int .i64 A0, .int .i64 A1], .int .i64 A2]) ∧ Below W.heap.size W w')
    (ks : ∀ W, Tab W → Calls Tryd.prog 30 #[.string s] W fun e w' => e = .returned (.tuple #[.agg #[.int .i64 P, .int .i64 Q], .int .i64 0]) ∧ Below W.heap.size W w')
    (kr : ∀ W, Calls Tryd.prog 31 #[.string s] W fun e w' => e = .returned (.tuple #[.agg #[.int .i64 P, .int .i64 Q], .int .i64 0]) ∧ Below W.heap.size W w')
    (ki : ∀ W, Calls Tryd.prog 13 #[.agg #[.int .i64 x, .int .i64 y]] W fun e w' => e = .returned (.bool false) ∧ Below W.heap.size W w')
    (kt3 : ∀ W, Tab W → Calls Tryd.prog 29 #[.agg #[.int .i64 P, .int .i64 Q]] W fun e w' => e = .returned (.string s) ∧ Below W.heap.size W w')
    (he : tt.toList.isEmpty = true)
    : Calls Tryd.prog 8 #[.agg #[.int .i64 x, .int .i64 y], .string s] w fun e w' => e = .returned (.bool true) ∧ Below w.heap.size w w' := by
  have KT := Lib.hid kt
  have KT2 := Lib.hid kt2
  have KP := Lib.hid kp
  have KS := Lib.hid ks
  have KR := Lib.hid kr
  have KI := Lib.hid ki
  have KT3 := Lib.hid kt3
  clear kt kt2 kp ks kr ki kt3
  unfold maxLen at hs
  have q1 := str_self tt
  have q2 := str_self s
  have z1 : (x == x) = true := by simp
  have z2 : (y == y) = true := by simp
  have z3 : (P != P) = false := by simp
  have z4 : (Q != Q) = false := by simp
  have J0 := Lib.hid ((Keeps.start w).alloc #[.int .i64 x, .int .i64 y] 23)
  have T0 := Lib.hid (hT.alloc (.cells #[.int .i64 x, .int .i64 y] 23))
  clear hT
  go_enter Tryd.func8, Tryd.ntmps8
  go_wp2_with fail
  refine (KT.out _ T0.out).mono ?_
  rintro e w1 ⟨rfl, bb⟩
  have J := Lib.hid (J0.out.below bb)
  have T := Lib.hid (T0.out.below bb)
  clear bb
  go_wp2_with fail
  refine (KP.out _ T.out).mono ?_
  rintro e w1 ⟨rfl, bb⟩
  have J := Lib.hid ((J.out.below bb).alloc #[.int .i64 A0, .int .i64 A1] 23)
  have T := Lib.hid ((T.out.below bb).alloc (.cells #[.int .i64 A0, .int .i64 A1] 23))
  clear bb
  go_wp2_with fail
  refine (KS.out _ T.out).mono ?_
  rintro e w2 ⟨rfl, bb⟩
  have J := Lib.hid ((J.out.below bb).alloc #[.int .i64 P, .int .i64 Q] 23)
  have T := Lib.hid ((T.out.below bb).alloc (.cells #[.int .i64 P, .int .i64 Q] 23))
  clear bb
  go_wp2_with fail
  refine (KR.out _).mono ?_
  rintro e w3 ⟨rfl, bb⟩
  have J := Lib.hid ((J.out.below bb).alloc #[.int .i64 P, .int .i64 Q] 23)
  have T := Lib.hid ((T.out.below bb).alloc (.cells #[.int .i64 P, .int .i64 Q] 23))
  clear bb
  obtain ⟨c0, c1, _, _⟩ := J.out.head.two
  obtain ⟨b0, b1, _, _⟩ := J.out.tail.head.two
  obtain ⟨a0, a1, _, _⟩ := J.out.tail.tail.head.two
  obtain ⟨r0, r1, _, _⟩ := J.out.tail.tail.tail.head.two
  go_wp2_with fail
  refine (lives3 _ T.out).mono ?_
  rintro e w4 ⟨rfl, bb⟩
  have J := Lib.hid (J.out.below bb)
  have T := Lib.hid (T.out.below bb)
  clear bb
  obtain ⟨c0, c1, _, _⟩ := J.out.head.two
  obtain ⟨b0, b1, _, _⟩ := J.out.tail.head.two
  obtain ⟨a0, a1, _, _⟩ := J.out.tail.tail.head.two
  obtain ⟨r0, r1, _, _⟩ := J.out.tail.tail.tail.head.two
  go_wp2_with fail
  refine (KT2.out _).mono ?_
  rintro e w5 ⟨rfl, bb⟩
  have J := Lib.hid (J.out.below bb)
  have T := Lib.hid (T.out.below bb)
  clear bb
  obtain ⟨c0, c1, _, _⟩ := J.out.head.two
  obtain ⟨b0, b1, _, _⟩ := J.out.tail.head.two
  obtain ⟨a0, a1, _, _⟩ := J.out.tail.tail.head.two
  obtain ⟨r0, r1, _, _⟩ := J.out.tail.tail.tail.head.two
  go_wp2_with fail
  refine (KT3.out _ T.out).mono ?_
  rintro e w6 ⟨rfl, bb⟩
  have J := Lib.hid (J.out.below bb)
  have T := Lib.hid (T.out.below bb)
  clear bb
  obtain ⟨c0, c1, _, _⟩ := J.out.head.two
  obtain ⟨b0, b1, _, _⟩ := J.out.tail.head.two
  obtain ⟨a0, a1, _, _⟩ := J.out.tail.tail.head.two
  obtain ⟨r0, r1, _, _⟩ := J.out.tail.tail.tail.head.two
  go_wp2_with fail
  refine (KI.out _).mono ?_
  rintro e w7 ⟨rfl, bb⟩
  have J := Lib.hid (J.out.below bb)
  clear bb
  obtain ⟨c0, c1, _, _⟩ := J.out.head.two
  obtain ⟨b0, b1, _, _⟩ := J.out.tail.head.two
  obtain ⟨a0, a1, _, _⟩ := J.out.tail.tail.head.two
  obtain ⟨r0, r1, _, _⟩ := J.out.tail.tail.tail.head.two
  go_wp2
  go_ret
  exact ⟨rfl, J.out.2.1⟩
set_option maxRecDepth 100000 in
set_option maxHeartbeats 4000000 in
theorem way_TF (x y A0 A1 A2 P Q : Int) (s tt : ByteArray) (w : World) (hT : Tab w) (hs : s.size ≤ maxLen) (hz : ¬ 100 < s.size)
    (kt : ∀ W, Tab W → Calls Tryd.prog 29 #[.agg #[.int .i64 x, .int .i64 y]] W fun e w' => e = .returned (.string tt) ∧ Below W.heap.size W w')
    (kt2 : ∀ W, Calls Tryd.prog 32 #[.agg #[.int .i64 x, .int .i64 y]] W fun e w' => e = .returned (.string tt) ∧ Below W.heap.size W w')
    (kp : ∀ W, Tab W → Calls Tryd.prog 30 #[.string tt] W fun e w' => e = .returned (.tuple #[.agg #[.int .i64 x, .int .i64 y], .int .i64 0]) ∧ Below W.heap.size W w')
    (ks : ∀ W, Tab W → Calls Tryd.prog 30 #[.string s] W fun e w' => e = .returned (.tuple #[.agg #[.int .i64 0, .int .i64 0], .int .i64 30]) ∧ Below W.heap.size W w')
    (kr : ∀ W, Calls Tryd.prog 31 #[.string s] W fun e w' => e = .returned (.tuple #[.agg #[.int .i64 0, .int .i64 0], .int .i64 30]) ∧ Below W.heap.size W w')
    (ki : ∀ W, Calls Tryd.prog 13 #[.agg #[.int .i64 x, .int .i64 y]] W fun e w' => e = .returned (.bool true) ∧ Below W.heap.size W w')
    : Calls Tryd.prog 8 #[.agg #[.int .i64 x, .int .i64 y], .string s] w fun e w' => e = .returned (.bool true) ∧ Below w.heap.size w w' := by
  have KT := Lib.hid kt
  have KT2 := Lib.hid kt2
  have KP := Lib.hid kp
  have KS := Lib.hid ks
  have KR := Lib.hid kr
  have KI := Lib.hid ki
  clear kt kt2 kp ks kr ki
  unfold maxLen at hs
  have q1 := str_self tt
  have q2 := str_self s
  have z1 : (x == x) = true := by simp
  have z2 : (y == y) = true := by simp
  have z3 : (P != P) = false := by simp
  have z4 : (Q != Q) = false := by simp
  have J0 := Lib.hid ((Keeps.start w).alloc #[.int .i64 x, .int .i64 y] 23)
  have T0 := Lib.hid (hT.alloc (.cells #[.int .i64 x, .int .i64 y] 23))
  clear hT
  go_enter Tryd.func8, Tryd.ntmps8
  go_wp2_with fail
  refine (KT.out _ T0.out).mono ?_
  rintro e w1 ⟨rfl, bb⟩
  have J := Lib.hid (J0.out.below bb)
  have T := Lib.hid (T0.out.below bb)
  clear bb
  go_wp2_with fail
  refine (KP.out _ T.out).mono ?_
  rintro e w1 ⟨rfl, bb⟩
  have J := Lib.hid ((J.out.below bb).alloc #[.int .i64 x, .int .i64 y] 23)
  have T := Lib.hid ((T.out.below bb).alloc (.cells #[.int .i64 x, .int .i64 y] 23))
  clear bb
  go_wp2_with fail
  refine (KS.out _ T.out).mono ?_
  rintro e w2 ⟨rfl, bb⟩
  have J := Lib.hid ((J.out.below bb).alloc #[.int .i64 0, .int .i64 0] 23)
  have T := Lib.hid ((T.out.below bb).alloc (.cells #[.int .i64 0, .int .i64 0] 23))
  clear bb
  go_wp2_with fail
  refine (KR.out _).mono ?_
  rintro e w3 ⟨rfl, bb⟩
  have J := Lib.hid ((J.out.below bb).alloc #[.int .i64 0, .int .i64 0] 23)
  have T := Lib.hid ((T.out.below bb).alloc (.cells #[.int .i64 0, .int .i64 0] 23))
  clear bb
  obtain ⟨c0, c1, _, _⟩ := J.out.head.two
  obtain ⟨b0, b1, _, _⟩ := J.out.tail.head.two
  obtain ⟨a0, a1, _, _⟩ := J.out.tail.tail.head.two
  obtain ⟨r0, r1, _, _⟩ := J.out.tail.tail.tail.head.two
  go_wp2_with fail
  refine (lives3 _ T.out).mono ?_
  rintro e w4 ⟨rfl, bb⟩
  have J := Lib.hid (J.out.below bb)
  have T := Lib.hid (T.out.below bb)
  clear bb
  obtain ⟨c0, c1, _, _⟩ := J.out.head.two
  obtain ⟨b0, b1, _, _⟩ := J.out.tail.head.two
  obtain ⟨a0, a1, _, _⟩ := J.out.tail.tail.head.two
  obtain ⟨r0, r1, _, _⟩ := J.out.tail.tail.tail.head.two
  go_wp2_with fail
  refine (KT2.out _).mono ?_
  rintro e w5 ⟨rfl, bb⟩
  have J := Lib.hid (J.out.below bb)
  have T := Lib.hid (T.out.below bb)
  clear bb
  obtain ⟨c0, c1, _, _⟩ := J.out.head.two
  obtain ⟨b0, b1, _, _⟩ := J.out.tail.head.two
  obtain ⟨a0, a1, _, _⟩ := J.out.tail.tail.head.two
  obtain ⟨r0, r1, _, _⟩ := J.out.tail.tail.tail.head.two
  go_wp2_with fail
  refine (KI.out _).mono ?_
  rintro e w7 ⟨rfl, bb⟩
  have J := Lib.hid (J.out.below bb)
  clear bb
  obtain ⟨c0, c1, _, _⟩ := J.out.head.two
  obtain ⟨b0, b1, _, _⟩ := J.out.tail.head.two
  obtain ⟨a0, a1, _, _⟩ := J.out.tail.tail.head.two
  obtain ⟨r0, r1, _, _⟩ := J.out.tail.tail.tail.head.two
  go_wp2
  go_ret
  exact ⟨rfl, J.out.2.1⟩
set_option maxRecDepth 100000 in
set_option maxHeartbeats 4000000 in
theorem way_TT (x y A0 A1 A2 P Q : Int) (s tt : ByteArray) (w : World) (hT : Tab w) (hs : s.size ≤ maxLen) (hz : ¬ 100 < s.size)
    (kt : ∀ W, Tab W → Calls Tryd.prog 29 #[.agg #[.int .i64 x, .int .i64 y]] W fun e w' => e = .returned (.string tt) ∧ Below W.heap.size W w')
    (kt2 : ∀ W, Calls Tryd.prog 32 #[.agg #[.int .i64 x, .int .i64 y]] W fun e w' => e = .returned (.string tt) ∧ Below W.heap.size W w')
    (kp : ∀ W, Tab W → Calls Tryd.prog 30 #[.string tt] W fun e w' => e = .returned (.tuple #[.agg #[.int .i64 x, .int .i64 y], .int .i64 0]) ∧ Below W.heap.size W w')
    (ks : ∀ W, Tab W → Calls Tryd.prog 30 #[.string s] W fun e w' => e = .returned (.tuple #[.agg #[.int .i64 P, .int .i64 Q], .int .i64 0]) ∧ Below W.heap.size W w')
    (kr : ∀ W, Calls Tryd.prog 31 #[.string s] W fun e w' => e = .returned (.tuple #[.agg #[.int .i64 P, .int .i64 Q], .int .i64 0]) ∧ Below W.heap.size W w')
    (ki : ∀ W, Calls Tryd.prog 13 #[.agg #[.int .i64 x, .int .i64 y]] W fun e w' => e = .returned (.bool true) ∧ Below W.heap.size W w')
    (kt3 : ∀ W, Tab W → Calls Tryd.prog 29 #[.agg #[.int .i64 P, .int .i64 Q]] W fun e w' => e = .returned (.string s) ∧ Below W.heap.size W w')
    : Calls Tryd.prog 8 #[.agg #[.int .i64 x, .int .i64 y], .string s] w fun e w' => e = .returned (.bool true) ∧ Below w.heap.size w w' := by
  have KT := Lib.hid kt
  have KT2 := Lib.hid kt2
  have KP := Lib.hid kp
  have KS := Lib.hid ks
  have KR := Lib.hid kr
  have KI := Lib.hid ki
  have KT3 := Lib.hid kt3
  clear kt kt2 kp ks kr ki kt3
  unfold maxLen at hs
  have q1 := str_self tt
  have q2 := str_self s
  have z1 : (x == x) = true := by simp
  have z2 : (y == y) = true := by simp
  have z3 : (P != P) = false := by simp
  have z4 : (Q != Q) = false := by simp
  have J0 := Lib.hid ((Keeps.start w).alloc #[.int .i64 x, .int .i64 y] 23)
  have T0 := Lib.hid (hT.alloc (.cells #[.int .i64 x, .int .i64 y] 23))
  clear hT
  go_enter Tryd.func8, Tryd.ntmps8
  go_wp2_with fail
  refine (KT.out _ T0.out).mono ?_
  rintro e w1 ⟨rfl, bb⟩
  have J := Lib.hid (J0.out.below bb)
  have T := Lib.hid (T0.out.below bb)
  clear bb
  go_wp2_with fail
  refine (KP.out _ T.out).mono ?_
  rintro e w1 ⟨rfl, bb⟩
  have J := Lib.hid ((J.out.below bb).alloc #[.int .i64 x, .int .i64 y] 23)
  have T := Lib.hid ((T.out.below bb).alloc (.cells #[.int .i64 x, .int .i64 y] 23))
  clear bb
  go_wp2_with fail
  refine (KS.out _ T.out).mono ?_
  rintro e w2 ⟨rfl, bb⟩
  have J := Lib.hid ((J.out.below bb).alloc #[.int .i64 P, .int .i64 Q] 23)
  have T := Lib.hid ((T.out.below bb).alloc (.cells #[.int .i64 P, .int .i64 Q] 23))
  clear bb
  go_wp2_with fail
  refine (KR.out _).mono ?_
  rintro e w3 ⟨rfl, bb⟩
  have J := Lib.hid ((J.out.below bb).alloc #[.int .i64 P, .int .i64 Q] 23)
  have T := Lib.hid ((T.out.below bb).alloc (.cells #[.int .i64 P, .int .i64 Q] 23))
  clear bb
  obtain ⟨c0, c1, _, _⟩ := J.out.head.two
  obtain ⟨b0, b1, _, _⟩ := J.out.tail.head.two
  obtain ⟨a0, a1, _, _⟩ := J.out.tail.tail.head.two
  obtain ⟨r0, r1, _, _⟩ := J.out.tail.tail.tail.head.two
  go_wp2_with fail
  refine (lives3 _ T.out).mono ?_
  rintro e w4 ⟨rfl, bb⟩
  have J := Lib.hid (J.out.below bb)
  have T := Lib.hid (T.out.below bb)
  clear bb
  obtain ⟨c0, c1, _, _⟩ := J.out.head.two
  obtain ⟨b0, b1, _, _⟩ := J.out.tail.head.two
  obtain ⟨a0, a1, _, _⟩ := J.out.tail.tail.head.two
  obtain ⟨r0, r1, _, _⟩ := J.out.tail.tail.tail.head.two
  go_wp2_with fail
  refine (KT2.out _).mono ?_
  rintro e w5 ⟨rfl, bb⟩
  have J := Lib.hid (J.out.below bb)
  have T := Lib.hid (T.out.below bb)
  clear bb
  obtain ⟨c0, c1, _, _⟩ := J.out.head.two
  obtain ⟨b0, b1, _, _⟩ := J.out.tail.head.two
  obtain ⟨a0, a1, _, _⟩ := J.out.tail.tail.head.two
  obtain ⟨r0, r1, _, _⟩ := J.out.tail.tail.tail.head.two
  go_wp2_with fail
  refine (KT3.out _ T.out).mono ?_
  rintro e w6 ⟨rfl, bb⟩
  have J := Lib.hid (J.out.below bb)
  have T := Lib.hid (T.out.below bb)
  clear bb
  obtain ⟨c0, c1, _, _⟩ := J.out.head.two
  obtain ⟨b0, b1, _, _⟩ := J.out.tail.head.two
  obtain ⟨a0, a1, _, _⟩ := J.out.tail.tail.head.two
  obtain ⟨r0, r1, _, _⟩ := J.out.tail.tail.tail.head.two
  go_wp2_with fail
  refine (KI.out _).mono ?_
  rintro e w7 ⟨rfl, bb⟩
  have J := Lib.hid (J.out.below bb)
  clear bb
  obtain ⟨c0, c1, _, _⟩ := J.out.head.two
  obtain ⟨b0, b1, _, _⟩ := J.out.tail.head.two
  obtain ⟨a0, a1, _, _⟩ := J.out.tail.tail.head.two
  obtain ⟨r0, r1, _, _⟩ := J.out.tail.tail.tail.head.two
  go_wp2
  go_ret
  exact ⟨rfl, J.out.2.1⟩

theorem rtxt_size (x y : Int) : (bstr (rtxt x y)).size ≤ maxLen := by
  rw [bstr_size]
  unfold maxLen rtxt
  by_cases hv : Valid x y
  · have h1 := itxt_len hv.2.1
    have h2 := itxt_len (n := y) (by have := hv.1; omega)
    rw [if_pos hv]
    split
    · omega
    · rw [List.length_append, List.length_cons]; omega
  · rw [if_neg hv]; decide
theorem walk (x y : Int) (hx : I64 x) (hy : I64 y) (s : ByteArray) (hs : s.size ≤ maxLen) (w : World) (hT : Tab w) :
    Calls Tryd.prog 8 #[.agg #[.int .i64 x, .int .i64 y], .string s] w fun e w' => e = .returned (.bool true) ∧ Below w.heap.size w w' := by
  by_cases hz : 100 < s.size
  · exact long x y s hs hz w hT
  have kt := fun W hT => rat_text x y hx hy W hT
  have kt2 := fun W => ref3_text x y hx hy W
  have kp := fun W hT => rat_parse (bstr (rtxt x y)) (rtxt_size x y) W hT
  have ks := fun W hT => rat_parse s hs W hT
  have kr := fun W => ref3_parse s hs W
  have ki := fun W => ref3_is x y hx hy W
  have el : (bstr (rtxt x y)).data.toList = rtxt x y := rfl
  rw [el] at kp
  by_cases hp : PrOk s.data.toList
  · have hi := valid_bd (prOk_valid hp)
    have kt3 : ∀ W, Tab W → Calls Tryd.prog 29 #[.agg #[.int .i64 (rdP s.data.toList), .int .i64 (dec (rdB s.data.toList))]] W fun e w' => e = .returned (.string s) ∧ Below W.heap.size W w' := by
      intro W hT
      have h := rat_text _ _ hi.1 hi.2 W hT
      rw [hp.2] at h
      exact h
    rw [prV_ok hp] at ks kr
    by_cases hv : Valid x y
    · obtain ⟨h1, h2, h3⟩ := prOk_of hv rfl
      rw [prV_ok h1, h2, h3] at kp
      rw [isB_of hv] at ki
      exact way_TT x y 0 0 0 _ _ s _ w hT hs hz kt kt2 kp ks kr ki kt3
    · rw [isB_not hv] at ki
      exact way_FT x y _ _ _ _ _ s _ w hT hs hz kt kt2 kp ks kr ki kt3 (by rw [ByteArray.toList_eq]; unfold rtxt; rw [if_neg hv]; rfl)
  · rw [prV_no hp] at ks kr
    by_cases hv : Valid x y
    · obtain ⟨h1, h2, h3⟩ := prOk_of hv rfl
      rw [prV_ok h1, h2, h3] at kp
      rw [isB_of hv] at ki
      exact way_TF x y 0 0 0 0 0 s _ w hT hs hz kt kt2 kp ks kr ki
    · rw [isB_not hv] at ki
      exact way_FF x y _ _ _ 0 0 s _ w hT hs hz kt kt2 kp ks kr ki (by rw [ByteArray.toList_eq]; unfold rtxt; rw [if_neg hv]; rfl)

set_option maxRecDepth 100000 in
theorem lifted (os : Os) (started : os.Started) (H : Type) (enc : TypeId × Value → H) :
    ReturnsInHanded {} Tryd.checked os 8 .any (fun w args => (Rows.ratioTextsSpec.pre enc Tryd.prog Tryd.f8 [] false w args ∧ laidMetH Tryd.prog lst w) ∧ sizedMet enc Tryd.prog Tryd.f8 (OpenSpec.ofChange Rows.ratioTextsSpec) false w args) (Rows.ratioTextsSpec.post enc Tryd.prog Tryd.f8 false true false false) := by
  refine returnsInHanded_of_change_and (C := Tryd.checked) (X := fun w _ => laidMetH Tryd.prog lst w) (fun _ _ _ hh h => h.of_heap hh) own started (by kernel_rfl) Tryd.func8
    (ChangeSpec.witness_shaped (enc := enc) (C := Tryd.checked) (os := os) (X := fun w _ => laidMetH Tryd.prog lst w) false (World.doorLaid Tryd.prog 400 os) #[.agg #[.int .i64 0, .int .i64 0], .string ⟨#[]⟩] 8 rfl (World.shaped_of_RefB (by kernel_rfl) (by kernel_rfl)) (by kernel_rfl) (by kernel_rfl) (by kernel_rfl) (door_met os _)) ?_
  intro W base args ds gs before hval0 hW _ _ hL _
  have hT := tab_of hL
  have hval : ∀ (j : Nat) t v, Tryd.f8.params[j]? = some t → args[j]? = some v → Value.okWide Tryd.prog W .any base t v := hval0
  have hW' := hW
  obtain ⟨p, q, hA0, hV, rfl, hfz, hnd⟩ := hW
  obtain ⟨rfl, rfl⟩ := trodVars_none hV
  have hA : DataW.TrodAll enc Tryd.prog W 0 (fun _ => true) true Tryd.f8.params.toList args.toList ds p := hA0
  rw [Tryd.params8] at hA hval
  obtain ⟨v0, vs0, d0, ds0, p0, q0, hargs, rfl, rfl, h0, r0⟩ := trodAll_cons hA
  obtain ⟨v1, vs1, d1, ds1, p1, q1, rfl, rfl, rfl, h1, r1⟩ := trodAll_cons r0
  obtain ⟨rfl, rfl, rfl⟩ := trodAll_nil r1
  obtain rfl : args = #[v0, v1] := by cases args; simp_all
  obtain ⟨a0, b0, rfl, w0, z0⟩ := open_two Tryd.underlying23 Tryd.underlying3 Tryd.underlying3 (by kernel_rfl) (by kernel_rfl) (hval 0 23 v0 rfl rfl) h0
  obtain ⟨s1, rfl, _, _, z1⟩ := Go.ChangeMaps.open_string Tryd.underlying9 (hval 1 9 v1 rfl rfl) h1
  refine (walk a0 b0 (i64_of_wf w0) (i64_of_wf z0) s1 z1 W hT).mono fun e W' ⟨he, hg⟩ => ?_
  subst he
  exact ⟨_, rfl, law_post laid (by rw [Tryd.params8]; exact (by decide +kernel)) rfl (by kernel_rfl) Tryd.underlying4 rfl hW' hg⟩

theorem over : Rows.ratioTextsRow.holds Tryd.pinned (OpenSpec.ofChange Rows.ratioTextsSpec) :=
  OpenClaim.holds_of_wide 8 Tryd.f8 rfl rfl rfl rfl rfl rfl rfl ⟨rfl, rfl, rfl, rfl, rfl⟩ rfl rfl rfl rfl rfl (by kernel_rfl) Tryd.func8 (by kernel_rfl)
    (of_decide_eq_true (by kernel_rfl)) (by unfold Func.isWrapper; first | (rw [if_pos (by decide +kernel)]; kernel_rfl) | (rw [if_neg (by decide +kernel)]; exact ⟨rfl, rfl⟩))
    (fun os started H enc _ => lifted os started H enc)
theorem proved : Rows.RatioTextsCardSaid :=
  Claim7.holds_tied_plain_at .later [] [.data, .data, .data] true Rows.ratioTextsCard.stood.harness false
    over (fun _ h => by cases h) (by kernel_rfl) (fun _ h => by cases h) ratioTexts_row_tie rfl ⟨rfl, rfl⟩ (by kernel_rfl) rfl
    (fun f fn hf hfn => by
      obtain rfl : f = 8 := Option.some.inj ((show Tryd.prog.funcNamed Rows.ratioTextsRow.func = some 8 by kernel_rfl).symm.trans hf) |>.symm
      obtain rfl : fn = Tryd.f8 := (Option.some.inj (Tryd.func8.symm.trans hfn)).symm
      exact ⟨by kernel_rfl, fun j t ht => by
        rw [Tryd.params8] at ht
        have hm : t ∈ [23, 9] := by simpa using Array.mem_of_getElem? ht
        have hall : ([23, 9].all fun u => !Tryd.prog.wantsStandIn u) = true := by kernel_rfl
        exact (show Tryd.prog.wantsStandIn t = false by simpa using List.all_eq_true.1 hall t hm)⟩)
    (by kernel_rfl)
end Go.Proofs.YtbnpbflndnjmcaaDoor.ratioTexts
