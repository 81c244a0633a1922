/- Statement RatioBack: whatever the input is, the Go function returns true and each argument reads as it did. No condition. -/
import Derived.Test.YtbnpbflndnjmcaaDoorRows
import Derived.Test.YtbnpbflndnjmcaaDoorRatL
import Derived.Test.YtbnpbflndnjmcaaDoorRatF
import Derived.Test.YtbnpbflndnjmcaaDoorRatM
import Derived.Test.YtbnpbflndnjmcaaDoorBase
import Derived.Test.YtbnpbflndnjmcaaDoorTie
import Derived.Test.YtbnpbflndnjmcaaDoorCards
import Derived.SevenTiedAt
import Derived.ProofKit
import Derived.OpenShut
namespace Go.Proofs.YtbnpbflndnjmcaaDoor.ratioBack
open Go.ChangeShapes Go.WideShapes Go.ChangeAt Go.RowKit
set_option linter.unusedVariables false

theorem own : ownKnob Tryd.prog.godebug = none := by kernel_rfl
theorem laid : laidOutB Tryd.prog = true := by kernel_rfl

theorem i64_of_valid {p q : Int} (h : Valid p q) : I64 p ∧ I64 q := valid_bd h
theorem do_i64 (p q p2 q2 n d : Int) (hn : doE p q p2 q2 n d = 0) : I64 (doP p q p2 q2 n d) ∧ I64 (doQ p q p2 q2 n d) := by
  obtain ⟨_, e1, e2, e3⟩ := do_ok hn
  obtain ⟨_, hs, _⟩ := of_ok e3
  rw [e1, e2]
  exact valid_bd hs
set_option maxHeartbeats 4000000 in
theorem way_TTT (a b c d f g sP sQ e1 mP mQ e2 tP tQ e3 k : Int) (w : World) (hT : Tab w)
    (ka : ∀ W, Calls Tryd.prog 15 #[.agg #[.int .i64 a, .int .i64 b], .agg #[.int .i64 c, .int .i64 d]] W fun e w' => e = .returned (.tuple #[.agg #[.int .i64 sP, .int .i64 sQ], .int .i64 e1]) ∧ Below W.heap.size W w')
    (km : ∀ W, Calls Tryd.prog 18 #[.agg #[.int .i64 a, .int .i64 b], .agg #[.int .i64 c, .int .i64 d]] W fun e w' => e = .returned (.tuple #[.agg #[.int .i64 mP, .int .i64 mQ], .int .i64 e2]) ∧ Below W.heap.size W w')
    (kt : ∀ W, Calls Tryd.prog 15 #[.agg #[.int .i64 f, .int .i64 g], .agg #[.int .i64 c, .int .i64 d]] W fun e w' => e = .returned (.tuple #[.agg #[.int .i64 tP, .int .i64 tQ], .int .i64 e3]) ∧ Below W.heap.size W w')
    (ks : ∀ W, Calls Tryd.prog 17 #[.agg #[.int .i64 sP, .int .i64 sQ], .agg #[.int .i64 c, .int .i64 d]] W fun e w' => e = .returned (.tuple #[.agg #[.int .i64 a, .int .i64 b], .int .i64 0]) ∧ Below W.heap.size W w')
    (kd : ∀ W, Calls Tryd.prog 19 #[.agg #[.int .i64 mP, .int .i64 mQ], .agg #[.int .i64 c, .int .i64 d]] W fun e w' => e = .returned (.tuple #[.agg #[.int .i64 a, .int .i64 b], .int .i64 0]) ∧ Below W.heap.size W w')
    (kc : ∀ W, Calls Tryd.prog 20 #[.agg #[.int .i64 a, .int .i64 b], .agg #[.int .i64 f, .int .i64 g]] W fun e w' => e = .returned (.tuple #[.int .i64 k, .int .i64 0]) ∧ Below W.heap.size W w')
    (kd2 : ∀ W, Calls Tryd.prog 20 #[.agg #[.int .i64 sP, .int .i64 sQ], .agg #[.int .i64 tP, .int .i64 tQ]] W fun e w' => e = .returned (.tuple #[.int .i64 k, .int .i64 0]) ∧ Below W.heap.size W w')
    (h1 : (e1 == 0) = true) (h1' : (e1 != 0) = false) (h2 : (e2 == 0) = true) (h2' : (c != 0) = true) (h3 : (e3 != 0) = false) :
    Calls Tryd.prog 6 #[.agg #[.int .i64 a, .int .i64 b], .agg #[.int .i64 c, .int .i64 d], .agg #[.int .i64 f, .int .i64 g]] w fun e w' => e = .returned (.bool true) ∧ Below w.heap.size w w' := by
  have KA := Lib.hid ka
  have KM := Lib.hid km
  have KT := Lib.hid kt
  have KS := Lib.hid ks
  have KD := Lib.hid kd
  have KC := Lib.hid kc
  have KD2 := Lib.hid kd2
  clear ka km kt ks kd kc kd2
  have qa : (a != a) = false := by simp
  have qb : (b != b) = false := by simp
  have qk : (k == k) = true := by simp
  have J := Lib.hid ((((Keeps.start w).alloc #[.int .i64 a, .int .i64 b] 23).alloc #[.int .i64 c, .int .i64 d] 23).alloc #[.int .i64 f, .int .i64 g] 23)
  simp only [alloc_size'] at J
  have T := Lib.hid (((hT.alloc (.cells #[.int .i64 a, .int .i64 b] 23)).alloc (.cells #[.int .i64 c, .int .i64 d] 23)).alloc (.cells #[.int .i64 f, .int .i64 g] 23))
  clear hT
  go_enter Tryd.func6, Tryd.ntmps6
  go_wp2_with fail
  refine (KA.out _).mono ?_
  rintro e w1 ⟨rfl, bb⟩
  have J := Lib.hid ((J.out.below bb).alloc #[.int .i64 sP, .int .i64 sQ] 23)
  have T := Lib.hid ((T.out.below bb).alloc (.cells #[.int .i64 sP, .int .i64 sQ] 23))
  clear bb
  obtain ⟨za0, za1, _, _⟩ := (J.out.tail.tail.tail.head).two
  obtain ⟨zc0, zc1, _, _⟩ := (J.out.tail.tail.head).two
  obtain ⟨zf0, zf1, _, _⟩ := (J.out.tail.head).two
  obtain ⟨zs0, zs1, _, _⟩ := (J.out.head).two
  go_wp2_with fail
  refine (lives3 _ T.out).mono ?_
  rintro e w1 ⟨rfl, bb⟩
  have T := Lib.hid (T.out.below bb)
  have J := Lib.hid (J.out.below bb)
  clear bb
  obtain ⟨za0, za1, _, _⟩ := (J.out.tail.tail.tail.head).two
  obtain ⟨zc0, zc1, _, _⟩ := (J.out.tail.tail.head).two
  obtain ⟨zf0, zf1, _, _⟩ := (J.out.tail.head).two
  obtain ⟨zs0, zs1, _, _⟩ := (J.out.head).two
  go_wp2_with fail
  refine (KS.out _).mono ?_
  rintro e w1 ⟨rfl, bb⟩
  have J := Lib.hid ((J.out.below bb).alloc #[.int .i64 a, .int .i64 b] 23)
  have T := Lib.hid ((T.out.below bb).alloc (.cells #[.int .i64 a, .int .i64 b] 23))
  clear bb
  obtain ⟨za0, za1, _, _⟩ := (J.out.tail.tail.tail.tail.head).two
  obtain ⟨zc0, zc1, _, _⟩ := (J.out.tail.tail.tail.head).two
  obtain ⟨zf0, zf1, _, _⟩ := (J.out.tail.tail.head).two
  obtain ⟨zs0, zs1, _, _⟩ := (J.out.tail.head).two
  obtain ⟨zx0, zx1, _, _⟩ := (J.out.head).two
  go_wp2_with fail
  refine (KM.out _).mono ?_
  rintro e w1 ⟨rfl, bb⟩
  have J := Lib.hid ((J.out.below bb).alloc #[.int .i64 mP, .int .i64 mQ] 23)
  have T := Lib.hid ((T.out.below bb).alloc (.cells #[.int .i64 mP, .int .i64 mQ] 23))
  clear bb
  obtain ⟨za0, za1, _, _⟩ := (J.out.tail.tail.tail.tail.tail.head).two
  obtain ⟨zc0, zc1, _, _⟩ := (J.out.tail.tail.tail.tail.head).two
  obtain ⟨zf0, zf1, _, _⟩ := (J.out.tail.tail.tail.head).two
  obtain ⟨zm0, zm1, _, _⟩ := (J.out.head).two
  obtain ⟨zs0, zs1, _, _⟩ := (J.out.tail.tail.head).two
  obtain ⟨zx0, zx1, _, _⟩ := (J.out.tail.head).two
  go_wp2_with fail
  refine (KD.out _).mono ?_
  rintro e w1 ⟨rfl, bb⟩
  have J := Lib.hid ((J.out.below bb).alloc #[.int .i64 a, .int .i64 b] 23)
  have T := Lib.hid ((T.out.below bb).alloc (.cells #[.int .i64 a, .int .i64 b] 23))
  clear bb
  obtain ⟨za0, za1, _, _⟩ := (J.out.tail.tail.tail.tail.tail.tail.head).two
  obtain ⟨zc0, zc1, _, _⟩ := (J.out.tail.tail.tail.tail.tail.head).two
  obtain ⟨zf0, zf1, _, _⟩ := (J.out.tail.tail.tail.tail.head).two
  obtain ⟨zm0, zm1, _, _⟩ := (J.out.tail.head).two
  obtain ⟨zs0, zs1, _, _⟩ := (J.out.tail.tail.tail.head).two
  obtain ⟨zx0, zx1, _, _⟩ := (J.out.tail.tail.head).two
  obtain ⟨zy0, zy1, _, _⟩ := (J.out.head).two
  go_wp2_with fail
  refine (KT.out _).mono ?_
  rintro e w1 ⟨rfl, bb⟩
  have J := Lib.hid ((J.out.below bb).alloc #[.int .i64 tP, .int .i64 tQ] 23)
  have T := Lib.hid ((T.out.below bb).alloc (.cells #[.int .i64 tP, .int .i64 tQ] 23))
  clear bb
  obtain ⟨za0, za1, _, _⟩ := (J.out.tail.tail.tail.tail.tail.tail.tail.head).two
  obtain ⟨zc0, zc1, _, _⟩ := (J.out.tail.tail.tail.tail.tail.tail.head).two
  obtain ⟨zf0, zf1, _, _⟩ := (J.out.tail.tail.tail.tail.tail.head).two
  obtain ⟨zm0, zm1, _, _⟩ := (J.out.tail.tail.head).two
  obtain ⟨zs0, zs1, _, _⟩ := (J.out.tail.tail.tail.tail.head).two
  obtain ⟨zt0, zt1, _, _⟩ := (J.out.head).two
  obtain ⟨zx0, zx1, _, _⟩ := (J.out.tail.tail.tail.head).two
  obtain ⟨zy0, zy1, _, _⟩ := (J.out.tail.head).two
  go_wp2_with fail
  refine (KC.out _).mono ?_
  rintro e w1 ⟨rfl, bb⟩
  have J := Lib.hid (J.out.below bb)
  have T := Lib.hid (T.out.below bb)
  clear bb
  obtain ⟨za0, za1, _, _⟩ := (J.out.tail.tail.tail.tail.tail.tail.tail.head).two
  obtain ⟨zc0, zc1, _, _⟩ := (J.out.tail.tail.tail.tail.tail.tail.head).two
  obtain ⟨zf0, zf1, _, _⟩ := (J.out.tail.tail.tail.tail.tail.head).two
  obtain ⟨zm0, zm1, _, _⟩ := (J.out.tail.tail.head).two
  obtain ⟨zs0, zs1, _, _⟩ := (J.out.tail.tail.tail.tail.head).two
  obtain ⟨zt0, zt1, _, _⟩ := (J.out.head).two
  obtain ⟨zx0, zx1, _, _⟩ := (J.out.tail.tail.tail.head).two
  obtain ⟨zy0, zy1, _, _⟩ := (J.out.tail.head).two
  go_wp2_with fail
  refine (KD2.out _).mono ?_
  rintro e w1 ⟨rfl, bb⟩
  have J := Lib.hid (J.out.below bb)
  have T := Lib.hid (T.out.below bb)
  clear bb
  obtain ⟨za0, za1, _, _⟩ := (J.out.tail.tail.tail.tail.tail.tail.tail.head).two
  obtain ⟨zc0, zc1, _, _⟩ := (J.out.tail.tail.tail.tail.tail.tail.head).two
  obtain ⟨zf0, zf1, _, _⟩ := (J.out.tail.tail.tail.tail.tail.head).two
  obtain ⟨zm0, zm1, _, _⟩ := (J.out.tail.tail.head).two
  obtain ⟨zs0, zs1, _, _⟩ := (J.out.tail.tail.tail.tail.head).two
  obtain ⟨zt0, zt1, _, _⟩ := (J.out.head).two
  obtain ⟨zx0, zx1, _, _⟩ := (J.out.tail.tail.tail.head).two
  obtain ⟨zy0, zy1, _, _⟩ := (J.out.tail.head).two
  go_wp2
  go_ret
  exact ⟨rfl, J.out.2.1⟩
set_option maxHeartbeats 4000000 in
theorem way_TTF (a b c d f g sP sQ e1 mP mQ e2 tP tQ e3 k : Int) (w : World) (hT : Tab w)
    (ka : ∀ W, Calls Tryd.prog 15 #[.agg #[.int .i64 a, .int .i64 b], .agg #[.int .i64 c, .int .i64 d]] W fun e w' => e = .returned (.tuple #[.agg #[.int .i64 sP, .int .i64 sQ], .int .i64 e1]) ∧ Below W.heap.size W w')
    (km : ∀ W, Calls Tryd.prog 18 #[.agg #[.int .i64 a, .int .i64 b], .agg #[.int .i64 c, .int .i64 d]] W fun e w' => e = .returned (.tuple #[.agg #[.int .i64 mP, .int .i64 mQ], .int .i64 e2]) ∧ Below W.heap.size W w')
    (kt : ∀ W, Calls Tryd.prog 15 #[.agg #[.int .i64 f, .int .i64 g], .agg #[.int .i64 c, .int .i64 d]] W fun e w' => e = .returned (.tuple #[.agg #[.int .i64 tP, .int .i64 tQ], .int .i64 e3]) ∧ Below W.heap.size W w')
    (ks : ∀ W, Calls Tryd.prog 17 #[.agg #[.int .i64 sP, .int .i64 sQ], .agg #[.int .i64 c, .int .i64 d]] W fun e w' => e = .returned (.tuple #[.agg #[.int .i64 a, .int .i64 b], .int .i64 0]) ∧ Below W.heap.size W w')
    (kd : ∀ W, Calls Tryd.prog 19 #[.agg #[.int .i64 mP, .int .i64 mQ], .agg #[.int .i64 c, .int .i64 d]] W fun e w' => e = .returned (.tuple #[.agg #[.int .i64 a, .int .i64 b], .int .i64 0]) ∧ Below W.heap.size W w')
    (h1 : (e1 == 0) = true) (h1' : (e1 != 0) = false) (h2 : (e2 == 0) = true) (h2' : (c != 0) = true) (h3 : (e3 != 0) = true) :
    Calls Tryd.prog 6 #[.agg #[.int .i64 a, .int .i64 b], .agg #[.int .i64 c, .int .i64 d], .agg #[.int .i64 f, .int .i64 g]] w fun e w' => e = .returned (.bool true) ∧ Below w.heap.size w w' := by
  have KA := Lib.hid ka
  have KM := Lib.hid km
  have KT := Lib.hid kt
  have KS := Lib.hid ks
  have KD := Lib.hid kd
  clear ka km kt ks kd
  have qa : (a != a) = false := by simp
  have qb : (b != b) = false := by simp
  have qk : (k == k) = true := by simp
  have J := Lib.hid ((((Keeps.start w).alloc #[.int .i64 a, .int .i64 b] 23).alloc #[.int .i64 c, .int .i64 d] 23).alloc #[.int .i64 f, .int .i64 g] 23)
  simp only [alloc_size'] at J
  have T := Lib.hid (((hT.alloc (.cells #[.int .i64 a, .int .i64 b] 23)).alloc (.cells #[.int .i64 c, .int .i64 d] 23)).alloc (.cells #[.int .i64 f, .int .i64 g] 23))
  clear hT
  go_enter Tryd.func6, Tryd.ntmps6
  go_wp2_with fail
  refine (KA.out _).mono ?_
  rintro e w1 ⟨rfl, bb⟩
  have J := Lib.hid ((J.out.below bb).alloc #[.int .i64 sP, .int .i64 sQ] 23)
  have T := Lib.hid ((T.out.below bb).alloc (.cells #[.int .i64 sP, .int .i64 sQ] 23))
  clear bb
  obtain ⟨za0, za1, _, _⟩ := (J.out.tail.tail.tail.head).two
  obtain ⟨zc0, zc1, _, _⟩ := (J.out.tail.tail.head).two
  obtain ⟨zf0, zf1, _, _⟩ := (J.out.tail.head).two
  obtain ⟨zs0, zs1, _, _⟩ := (J.out.head).two
  go_wp2_with fail
  refine (lives3 _ T.out).mono ?_
  rintro e w1 ⟨rfl, bb⟩
  have T := Lib.hid (T.out.below bb)
  have J := Lib.hid (J.out.below bb)
  clear bb
  obtain ⟨za0, za1, _, _⟩ := (J.out.tail.tail.tail.head).two
  obtain ⟨zc0, zc1, _, _⟩ := (J.out.tail.tail.head).two
  obtain ⟨zf0, zf1, _, _⟩ := (J.out.tail.head).two
  obtain ⟨zs0, zs1, _, _⟩ := (J.out.head).two
  go_wp2_with fail
  refine (KS.out _).mono ?_
  rintro e w1 ⟨rfl, bb⟩
  have J := Lib.hid ((J.out.below bb).alloc #[.int .i64 a, .int .i64 b] 23)
  have T := Lib.hid ((T.out.below bb).alloc (.cells #[.int .i64 a, .int .i64 b] 23))
  clear bb
  obtain ⟨za0, za1, _, _⟩ := (J.out.tail.tail.tail.tail.head).two
  obtain ⟨zc0, zc1, _, _⟩ := (J.out.tail.tail.tail.head).two
  obtain ⟨zf0, zf1, _, _⟩ := (J.out.tail.tail.head).two
  obtain ⟨zs0, zs1, _, _⟩ := (J.out.tail.head).two
  obtain ⟨zx0, zx1, _, _⟩ := (J.out.head).two
  go_wp2_with fail
  refine (KM.out _).mono ?_
  rintro e w1 ⟨rfl, bb⟩
  have J := Lib.hid ((J.out.below bb).alloc #[.int .i64 mP, .int .i64 mQ] 23)
  have T := Lib.hid ((T.out.below bb).alloc (.cells #[.int .i64 mP, .int .i64 mQ] 23))
  clear bb
  obtain ⟨za0, za1, _, _⟩ := (J.out.tail.tail.tail.tail.tail.head).two
  obtain ⟨zc0, zc1, _, _⟩ := (J.out.tail.tail.tail.tail.head).two
  obtain ⟨zf0, zf1, _, _⟩ := (J.out.tail.tail.tail.head).two
  obtain ⟨zm0, zm1, _, _⟩ := (J.out.head).two
  obtain ⟨zs0, zs1, _, _⟩ := (J.out.tail.tail.head).two
  obtain ⟨zx0, zx1, _, _⟩ := (J.out.tail.head).two
  go_wp2_with fail
  refine (KD.out _).mono ?_
  rintro e w1 ⟨rfl, bb⟩
  have J := Lib.hid ((J.out.below bb).alloc #[.int .i64 a, .int .i64 b] 23)
  have T := Lib.hid ((T.out.below bb).alloc (.cells #[.int .i64 a, .int .i64 b] 23))
  clear bb
  obtain ⟨za0, za1, _, _⟩ := (J.out.tail.tail.tail.tail.tail.tail.head).two
  obtain ⟨zc0, zc1, _, _⟩ := (J.out.tail.tail.tail.tail.tail.head).two
  obtain ⟨zf0, zf1, _, _⟩ := (J.out.tail.tail.tail.tail.head).two
  obtain ⟨zm0, zm1, _, _⟩ := (J.out.tail.head).two
  obtain ⟨zs0, zs1, _, _⟩ := (J.out.tail.tail.tail.head).two
  obtain ⟨zx0, zx1, _, _⟩ := (J.out.tail.tail.head).two
  obtain ⟨zy0, zy1, _, _⟩ := (J.out.head).two
  go_wp2_with fail
  refine (KT.out _).mono ?_
  rintro e w1 ⟨rfl, bb⟩
  have J := Lib.hid ((J.out.below bb).alloc #[.int .i64 tP, .int .i64 tQ] 23)
  have T := Lib.hid ((T.out.below bb).alloc (.cells #[.int .i64 tP, .int .i64 tQ] 23))
  clear bb
  obtain ⟨za0, za1, _, _⟩ := (J.out.tail.tail.tail.tail.tail.tail.tail.head).two
  obtain ⟨zc0, zc1, _, _⟩ := (J.out.tail.tail.tail.tail.tail.tail.head).two
  obtain ⟨zf0, zf1, _, _⟩ := (J.out.tail.tail.tail.tail.tail.head).two
  obtain ⟨zm0, zm1, _, _⟩ := (J.out.tail.tail.head).two
  obtain ⟨zs0, zs1, _, _⟩ := (J.out.tail.tail.tail.tail.head).two
  obtain ⟨zt0, zt1, _, _⟩ := (J.out.head).two
  obtain ⟨zx0, zx1, _, _⟩ := (J.out.tail.tail.tail.head).two
  obtain ⟨zy0, zy1, _, _⟩ := (J.out.tail.head).two
  go_wp2
  go_ret
  exact ⟨rfl, J.out.2.1⟩
set_option maxHeartbeats 4000000 in
theorem way_TFT (a b c d f g sP sQ e1 mP mQ e2 tP tQ e3 k : Int) (w : World) (hT : Tab w)
    (ka : ∀ W, Calls Tryd.prog 15 #[.agg #[.int .i64 a, .int .i64 b], .agg #[.int .i64 c, .int .i64 d]] W fun e w' => e = .returned (.tuple #[.agg #[.int .i64 sP, .int .i64 sQ], .int .i64 e1]) ∧ Below W.heap.size W w')
    (km : ∀ W, Calls Tryd.prog 18 #[.agg #[.int .i64 a, .int .i64 b], .agg #[.int .i64 c, .int .i64 d]] W fun e w' => e = .returned (.tuple #[.agg #[.int .i64 mP, .int .i64 mQ], .int .i64 e2]) ∧ Below W.heap.size W w')
    (kt : ∀ W, Calls Tryd.prog 15 #[.agg #[.int .i64 f, .int .i64 g], .agg #[.int .i64 c, .int .i64 d]] W fun e w' => e = .returned (.tuple #[.agg #[.int .i64 tP, .int .i64 tQ], .int .i64 e3]) ∧ Below W.heap.size W w')
    (ks : ∀ W, Calls Tryd.prog 17 #[.agg #[.int .i64 sP, .int .i64 sQ], .agg #[.int .i64 c, .int .i64 d]] W fun e w' => e = .returned (.tuple #[.agg #[.int .i64 a, .int .i64 b], .int .i64 0]) ∧ Below W.heap.size W w')
    (kc : ∀ W, Calls Tryd.prog 20 #[.agg #[.int .i64 a, .int .i64 b], .agg #[.int .i64 f, .int .i64 g]] W fun e w' => e = .returned (.tuple #[.int .i64 k, .int .i64 0]) ∧ Below W.heap.size W w')
    (kd2 : ∀ W, Calls Tryd.prog 20 #[.agg #[.int .i64 sP, .int .i64 sQ], .agg #[.int .i64 tP, .int .i64 tQ]] W fun e w' => e = .returned (.tuple #[.int .i64 k, .int .i64 0]) ∧ Below W.heap.size W w')
    (h1 : (e1 == 0) = true) (h1' : (e1 != 0) = false) (h2 : (e2 == 0) = false) (h3 : (e3 != 0) = false) :
    Calls Tryd.prog 6 #[.agg #[.int .i64 a, .int .i64 b], .agg #[.int .i64 c, .int .i64 d], .agg #[.int .i64 f, .int .i64 g]] w fun e w' => e = .returned (.bool true) ∧ Below w.heap.size w w' := by
  have KA := Lib.hid ka
  have KM := Lib.hid km
  have KT := Lib.hid kt
  have KS := Lib.hid ks
  have KC := Lib.hid kc
  have KD2 := Lib.hid kd2
  clear ka km kt ks kc kd2
  have qa : (a != a) = false := by simp
  have qb : (b != b) = false := by simp
  have qk : (k == k) = true := by simp
  have J := Lib.hid ((((Keeps.start w).alloc #[.int .i64 a, .int .i64 b] 23).alloc #[.int .i64 c, .int .i64 d] 23).alloc #[.int .i64 f, .int .i64 g] 23)
  simp only [alloc_size'] at J
  have T := Lib.hid (((hT.alloc (.cells #[.int .i64 a, .int .i64 b] 23)).alloc (.cells #[.int .i64 c, .int .i64 d] 23)).alloc (.cells #[.int .i64 f, .int .i64 g] 23))
  clear hT
  go_enter Tryd.func6, Tryd.ntmps6
  go_wp2_with fail
  refine (KA.out _).mono ?_
  rintro e w1 ⟨rfl, bb⟩
  have J := Lib.hid ((J.out.below bb).alloc #[.int .i64 sP, .int .i64 sQ] 23)
  have T := Lib.hid ((T.out.below bb).alloc (.cells #[.int .i64 sP, .int .i64 sQ] 23))
  clear bb
  obtain ⟨za0, za1, _, _⟩ := (J.out.tail.tail.tail.head).two
  obtain ⟨zc0, zc1, _, _⟩ := (J.out.tail.tail.head).two
  obtain ⟨zf0, zf1, _, _⟩ := (J.out.tail.head).two
  obtain ⟨zs0, zs1, _, _⟩ := (J.out.head).two
  go_wp2_with fail
  refine (lives3 _ T.out).mono ?_
  rintro e w1 ⟨rfl, bb⟩
  have T := Lib.hid (T.out.below bb)
  have J := Lib.hid (J.out.below bb)
  clear bb
  obtain ⟨za0, za1, _, _⟩ := (J.out.tail.tail.tail.head).two
  obtain ⟨zc0, zc1, _, _⟩ := (J.out.tail.tail.head).two
  obtain ⟨zf0, zf1, _, _⟩ := (J.out.tail.head).two
  obtain ⟨zs0, zs1, _, _⟩ := (J.out.head).two
  go_wp2_with fail
  refine (KS.out _).mono ?_
  rintro e w1 ⟨rfl, bb⟩
  have J := Lib.hid ((J.out.below bb).alloc #[.int .i64 a, .int .i64 b] 23)
  have T := Lib.hid ((T.out.below bb).alloc (.cells #[.int .i64 a, .int .i64 b] 23))
  clear bb
  obtain ⟨za0, za1, _, _⟩ := (J.out.tail.tail.tail.tail.head).two
  obtain ⟨zc0, zc1, _, _⟩ := (J.out.tail.tail.tail.head).two
  obtain ⟨zf0, zf1, _, _⟩ := (J.out.tail.tail.head).two
  obtain ⟨zs0, zs1, _, _⟩ := (J.out.tail.head).two
  obtain ⟨zx0, zx1, _, _⟩ := (J.out.head).two
  go_wp2_with fail
  refine (KM.out _).mono ?_
  rintro e w1 ⟨rfl, bb⟩
  have J := Lib.hid ((J.out.below bb).alloc #[.int .i64 mP, .int .i64 mQ] 23)
  have T := Lib.hid ((T.out.below bb).alloc (.cells #[.int .i64 mP, .int .i64 mQ] 23))
  clear bb
  obtain ⟨za0, za1, _, _⟩ := (J.out.tail.tail.tail.tail.tail.head).two
  obtain ⟨zc0, zc1, _, _⟩ := (J.out.tail.tail.tail.tail.head).two
  obtain ⟨zf0, zf1, _, _⟩ := (J.out.tail.tail.tail.head).two
  obtain ⟨zm0, zm1, _, _⟩ := (J.out.head).two
  obtain ⟨zs0, zs1, _, _⟩ := (J.out.tail.tail.head).two
  obtain ⟨zx0, zx1, _, _⟩ := (J.out.tail.head).two
  go_wp2_with fail
  refine (KT.out _).mono ?_
  rintro e w1 ⟨rfl, bb⟩
  have J := Lib.hid ((J.out.below bb).alloc #[.int .i64 tP, .int .i64 tQ] 23)
  have T := Lib.hid ((T.out.below bb).alloc (.cells #[.int .i64 tP, .int .i64 tQ] 23))
  clear bb
  obtain ⟨za0, za1, _, _⟩ := (J.out.tail.tail.tail.tail.tail.tail.head).two
  obtain ⟨zc0, zc1, _, _⟩ := (J.out.tail.tail.tail.tail.tail.head).two
  obtain ⟨zf0, zf1, _, _⟩ := (J.out.tail.tail.tail.tail.head).two
  obtain ⟨zm0, zm1, _, _⟩ := (J.out.tail.head).two
  obtain ⟨zs0, zs1, _, _⟩ := (J.out.tail.tail.tail.head).two
  obtain ⟨zt0, zt1, _, _⟩ := (J.out.head).two
  obtain ⟨zx0, zx1, _, _⟩ := (J.out.tail.tail.head).two
  go_wp2_with fail
  refine (KC.out _).mono ?_
  rintro e w1 ⟨rfl, bb⟩
  have J := Lib.hid (J.out.below bb)
  have T := Lib.hid (T.out.below bb)
  clear bb
  obtain ⟨za0, za1, _, _⟩ := (J.out.tail.tail.tail.tail.tail.tail.head).two
  obtain ⟨zc0, zc1, _, _⟩ := (J.out.tail.tail.tail.tail.tail.head).two
  obtain ⟨zf0, zf1, _, _⟩ := (J.out.tail.tail.tail.tail.head).two
  obtain ⟨zm0, zm1, _, _⟩ := (J.out.tail.head).two
  obtain ⟨zs0, zs1, _, _⟩ := (J.out.tail.tail.tail.head).two
  obtain ⟨zt0, zt1, _, _⟩ := (J.out.head).two
  obtain ⟨zx0, zx1, _, _⟩ := (J.out.tail.tail.head).two
  go_wp2_with fail
  refine (KD2.out _).mono ?_
  rintro e w1 ⟨rfl, bb⟩
  have J := Lib.hid (J.out.below bb)
  have T := Lib.hid (T.out.below bb)
  clear bb
  obtain ⟨za0, za1, _, _⟩ := (J.out.tail.tail.tail.tail.tail.tail.head).two
  obtain ⟨zc0, zc1, _, _⟩ := (J.out.tail.tail.tail.tail.tail.head).two
  obtain ⟨zf0, zf1, _, _⟩ := (J.out.tail.tail.tail.tail.head).two
  obtain ⟨zm0, zm1, _, _⟩ := (J.out.tail.head).two
  obtain ⟨zs0, zs1, _, _⟩ := (J.out.tail.tail.tail.head).two
  obtain ⟨zt0, zt1, _, _⟩ := (J.out.head).two
  obtain ⟨zx0, zx1, _, _⟩ := (J.out.tail.tail.head).two
  go_wp2
  go_ret
  exact ⟨rfl, J.out.2.1⟩
set_option maxHeartbeats 4000000 in
theorem way_TFF (a b c d f g sP sQ e1 mP mQ e2 tP tQ e3 k : Int) (w : World) (hT : Tab w)
    (ka : ∀ W, Calls Tryd.prog 15 #[.agg #[.int .i64 a, .int .i64 b], .agg #[.int .i64 c, .int .i64 d]] W fun e w' => e = .returned (.tuple #[.agg #[.int .i64 sP, .int .i64 sQ], .int .i64 e1]) ∧ Below W.heap.size W w')
    (km : ∀ W, Calls Tryd.prog 18 #[.agg #[.int .i64 a, .int .i64 b], .agg #[.int .i64 c, .int .i64 d]] W fun e w' => e = .returned (.tuple #[.agg #[.int .i64 mP, .int .i64 mQ], .int .i64 e2]) ∧ Below W.heap.size W w')
    (kt : ∀ W, Calls Tryd.prog 15 #[.agg #[.int .i64 f, .int .i64 g], .agg #[.int .i64 c, .int .i64 d]] W fun e w' => e = .returned (.tuple #[.agg #[.int .i64 tP, .int .i64 tQ], .int .i64 e3]) ∧ Below W.heap.size W w')
    (ks : ∀ W, Calls Tryd.prog 17 #[.agg #[.int .i64 sP, .int .i64 sQ], .agg #[.int .i64 c, .int .i64 d]] W fun e w' => e = .returned (.tuple #[.agg #[.int .i64 a, .int .i64 b], .int .i64 0]) ∧ Below W.heap.size W w')
    (h1 : (e1 == 0) = true) (h1' : (e1 != 0) = false) (h2 : (e2 == 0) = false) (h3 : (e3 != 0) = true) :
    Calls Tryd.prog 6 #[.agg #[.int .i64 a, .int .i64 b], .agg #[.int .i64 c, .int .i64 d], .agg #[.int .i64 f, .int .i64 g]] w fun e w' => e = .returned (.bool true) ∧ Below w.heap.size w w' := by
  have KA := Lib.hid ka
  have KM := Lib.hid km
  have KT := Lib.hid kt
  have KS := Lib.hid ks
  clear ka km kt ks
  have qa : (a != a) = false := by simp
  have qb : (b != b) = false := by simp
  have qk : (k == k) = true := by simp
  have J := Lib.hid ((((Keeps.start w).alloc #[.int .i64 a, .int .i64 b] 23).alloc #[.int .i64 c, .int .i64 d] 23).alloc #[.int .i64 f, .int .i64 g] 23)
  simp only [alloc_size'] at J
  have T := Lib.hid (((hT.alloc (.cells #[.int .i64 a, .int .i64 b] 23)).alloc (.cells #[.int .i64 c, .int .i64 d] 23)).alloc (.cells #[.int .i64 f, .int .i64 g] 23))
  clear hT
  go_enter Tryd.func6, Tryd.ntmps6
  go_wp2_with fail
  refine (KA.out _).mono ?_
  rintro e w1 ⟨rfl, bb⟩
  have J := Lib.hid ((J.out.below bb).alloc #[.int .i64 sP, .int .i64 sQ] 23)
  have T := Lib.hid ((T.out.below bb).alloc (.cells #[.int .i64 sP, .int .i64 sQ] 23))
  clear bb
  obtain ⟨za0, za1, _, _⟩ := (J.out.tail.tail.tail.head).two
  obtain ⟨zc0, zc1, _, _⟩ := (J.out.tail.tail.head).two
  obtain ⟨zf0, zf1, _, _⟩ := (J.out.tail.head).two
  obtain ⟨zs0, zs1, _, _⟩ := (J.out.head).two
  go_wp2_with fail
  refine (lives3 _ T.out).mono ?_
  rintro e w1 ⟨rfl, bb⟩
  have T := Lib.hid (T.out.below bb)
  have J := Lib.hid (J.out.below bb)
  clear bb
  obtain ⟨za0, za1, _, _⟩ := (J.out.tail.tail.tail.head).two
  obtain ⟨zc0, zc1, _, _⟩ := (J.out.tail.tail.head).two
  obtain ⟨zf0, zf1, _, _⟩ := (J.out.tail.head).two
  obtain ⟨zs0, zs1, _, _⟩ := (J.out.head).two
  go_wp2_with fail
  refine (KS.out _).mono ?_
  rintro e w1 ⟨rfl, bb⟩
  have J := Lib.hid ((J.out.below bb).alloc #[.int .i64 a, .int .i64 b] 23)
  have T := Lib.hid ((T.out.below bb).alloc (.cells #[.int .i64 a, .int .i64 b] 23))
  clear bb
  obtain ⟨za0, za1, _, _⟩ := (J.out.tail.tail.tail.tail.head).two
  obtain ⟨zc0, zc1, _, _⟩ := (J.out.tail.tail.tail.head).two
  obtain ⟨zf0, zf1, _, _⟩ := (J.out.tail.tail.head).two
  obtain ⟨zs0, zs1, _, _⟩ := (J.out.tail.head).two
  obtain ⟨zx0, zx1, _, _⟩ := (J.out.head).two
  go_wp2_with fail
  refine (KM.out _).mono ?_
  rintro e w1 ⟨rfl, bb⟩
  have J := Lib.hid ((J.out.below bb).alloc #[.int .i64 mP, .int .i64 mQ] 23)
  have T := Lib.hid ((T.out.below bb).alloc (.cells #[.int .i64 mP, .int .i64 mQ] 23))
  clear bb
  obtain ⟨za0, za1, _, _⟩ := (J.out.tail.tail.tail.tail.tail.head).two
  obtain ⟨zc0, zc1, _, _⟩ := (J.out.tail.tail.tail.tail.head).two
  obtain ⟨zf0, zf1, _, _⟩ := (J.out.tail.tail.tail.head).two
  obtain ⟨zm0, zm1, _, _⟩ := (J.out.head).two
  obtain ⟨zs0, zs1, _, _⟩ := (J.out.tail.tail.head).two
  obtain ⟨zx0, zx1, _, _⟩ := (J.out.tail.head).two
  go_wp2_with fail
  refine (KT.out _).mono ?_
  rintro e w1 ⟨rfl, bb⟩
  have J := Lib.hid ((J.out.below bb).alloc #[.int .i64 tP, .int .i64 tQ] 23)
  have T := Lib.hid ((T.out.below bb).alloc (.cells #[.int .i64 tP, .int .i64 tQ] 23))
  clear bb
  obtain ⟨za0, za1, _, _⟩ := (J.out.tail.tail.tail.tail.tail.tail.head).two
  obtain ⟨zc0, zc1, _, _⟩ := (J.out.tail.tail.tail.tail.tail.head).two
  obtain ⟨zf0, zf1, _, _⟩ := (J.out.tail.tail.tail.tail.head).two
  obtain ⟨zm0, zm1, _, _⟩ := (J.out.tail.head).two
  obtain ⟨zs0, zs1, _, _⟩ := (J.out.tail.tail.tail.head).two
  obtain ⟨zt0, zt1, _, _⟩ := (J.out.head).two
  obtain ⟨zx0, zx1, _, _⟩ := (J.out.tail.tail.head).two
  go_wp2
  go_ret
  exact ⟨rfl, J.out.2.1⟩
set_option maxHeartbeats 4000000 in
theorem way_TZT (a b c d f g sP sQ e1 mP mQ e2 tP tQ e3 k : Int) (w : World) (hT : Tab w)
    (ka : ∀ W, Calls Tryd.prog 15 #[.agg #[.int .i64 a, .int .i64 b], .agg #[.int .i64 c, .int .i64 d]] W fun e w' => e = .returned (.tuple #[.agg #[.int .i64 sP, .int .i64 sQ], .int .i64 e1]) ∧ Below W.heap.size W w')
    (km : ∀ W, Calls Tryd.prog 18 #[.agg #[.int .i64 a, .int .i64 b], .agg #[.int .i64 c, .int .i64 d]] W fun e w' => e = .returned (.tuple #[.agg #[.int .i64 mP, .int .i64 mQ], .int .i64 e2]) ∧ Below W.heap.size W w')
    (kt : ∀ W, Calls Tryd.prog 15 #[.agg #[.int .i64 f, .int .i64 g], .agg #[.int .i64 c, .int .i64 d]] W fun e w' => e = .returned (.tuple #[.agg #[.int .i64 tP, .int .i64 tQ], .int .i64 e3]) ∧ Below W.heap.size W w')
    (ks : ∀ W, Calls Tryd.prog 17 #[.agg #[.int .i64 sP, .int .i64 sQ], .agg #[.int .i64 c, .int .i64 d]] W fun e w' => e = .returned (.tuple #[.agg #[.int .i64 a, .int .i64 b], .int .i64 0]) ∧ Below W.heap.size W w')
    (kc : ∀ W, Calls Tryd.prog 20 #[.agg #[.int .i64 a, .int .i64 b], .agg #[.int .i64 f, .int .i64 g]] W fun e w' => e = .returned (.tuple #[.int .i64 k, .int .i64 0]) ∧ Below W.heap.size W w')
    (kd2 : ∀ W, Calls Tryd.prog 20 #[.agg #[.int .i64 sP, .int .i64 sQ], .agg #[.int .i64 tP, .int .i64 tQ]] W fun e w' => e = .returned (.tuple #[.int .i64 k, .int .i64 0]) ∧ Below W.heap.size W w')
    (h1 : (e1 == 0) = true) (h1' : (e1 != 0) = false) (h2 : (e2 == 0) = true) (h2' : (c != 0) = false) (h3 : (e3 != 0) = false) :
    Calls Tryd.prog 6 #[.agg #[.int .i64 a, .int .i64 b], .agg #[.int .i64 c, .int .i64 d], .agg #[.int .i64 f, .int .i64 g]] w fun e w' => e = .returned (.bool true) ∧ Below w.heap.size w w' := by
  have KA := Lib.hid ka
  have KM := Lib.hid km
  have KT := Lib.hid kt
  have KS := Lib.hid ks
  have KC := Lib.hid kc
  have KD2 := Lib.hid kd2
  clear ka km kt ks kc kd2
  have qa : (a != a) = false := by simp
  have qb : (b != b) = false := by simp
  have qk : (k == k) = true := by simp
  have J := Lib.hid ((((Keeps.start w).alloc #[.int .i64 a, .int .i64 b] 23).alloc #[.int .i64 c, .int .i64 d] 23).alloc #[.int .i64 f, .int .i64 g] 23)
  simp only [alloc_size'] at J
  have T := Lib.hid (((hT.alloc (.cells #[.int .i64 a, .int .i64 b] 23)).alloc (.cells #[.int .i64 c, .int .i64 d] 23)).alloc (.cells #[.int .i64 f, .int .i64 g] 23))
  clear hT
  go_enter Tryd.func6, Tryd.ntmps6
  go_wp2_with fail
  refine (KA.out _).mono ?_
  rintro e w1 ⟨rfl, bb⟩
  have J := Lib.hid ((J.out.below bb).alloc #[.int .i64 sP, .int .i64 sQ] 23)
  have T := Lib.hid ((T.out.below bb).alloc (.cells #[.int .i64 sP, .int .i64 sQ] 23))
  clear bb
  obtain ⟨za0, za1, _, _⟩ := (J.out.tail.tail.tail.head).two
  obtain ⟨zc0, zc1, _, _⟩ := (J.out.tail.tail.head).two
  obtain ⟨zf0, zf1, _, _⟩ := (J.out.tail.head).two
  obtain ⟨zs0, zs1, _, _⟩ := (J.out.head).two
  go_wp2_with fail
  refine (lives3 _ T.out).mono ?_
  rintro e w1 ⟨rfl, bb⟩
  have T := Lib.hid (T.out.below bb)
  have J := Lib.hid (J.out.below bb)
  clear bb
  obtain ⟨za0, za1, _, _⟩ := (J.out.tail.tail.tail.head).two
  obtain ⟨zc0, zc1, _, _⟩ := (J.out.tail.tail.head).two
  obtain ⟨zf0, zf1, _, _⟩ := (J.out.tail.head).two
  obtain ⟨zs0, zs1, _, _⟩ := (J.out.head).two
  go_wp2_with fail
  refine (KS.out _).mono ?_
  rintro e w1 ⟨rfl, bb⟩
  have J := Lib.hid ((J.out.below bb).alloc #[.int .i64 a, .int .i64 b] 23)
  have T := Lib.hid ((T.out.below bb).alloc (.cells #[.int .i64 a, .int .i64 b] 23))
  clear bb
  obtain ⟨za0, za1, _, _⟩ := (J.out.tail.tail.tail.tail.head).two
  obtain ⟨zc0, zc1, _, _⟩ := (J.out.tail.tail.tail.head).two
  obtain ⟨zf0, zf1, _, _⟩ := (J.out.tail.tail.head).two
  obtain ⟨zs0, zs1, _, _⟩ := (J.out.tail.head).two
  obtain ⟨zx0, zx1, _, _⟩ := (J.out.head).two
  go_wp2_with fail
  refine (KM.out _).mono ?_
  rintro e w1 ⟨rfl, bb⟩
  have J := Lib.hid ((J.out.below bb).alloc #[.int .i64 mP, .int .i64 mQ] 23)
  have T := Lib.hid ((T.out.below bb).alloc (.cells #[.int .i64 mP, .int .i64 mQ] 23))
  clear bb
  obtain ⟨za0, za1, _, _⟩ := (J.out.tail.tail.tail.tail.tail.head).two
  obtain ⟨zc0, zc1, _, _⟩ := (J.out.tail.tail.tail.tail.head).two
  obtain ⟨zf0, zf1, _, _⟩ := (J.out.tail.tail.tail.head).two
  obtain ⟨zm0, zm1, _, _⟩ := (J.out.head).two
  obtain ⟨zs0, zs1, _, _⟩ := (J.out.tail.tail.head).two
  obtain ⟨zx0, zx1, _, _⟩ := (J.out.tail.head).two
  go_wp2_with fail
  refine (KT.out _).mono ?_
  rintro e w1 ⟨rfl, bb⟩
  have J := Lib.hid ((J.out.below bb).alloc #[.int .i64 tP, .int .i64 tQ] 23)
  have T := Lib.hid ((T.out.below bb).alloc (.cells #[.int .i64 tP, .int .i64 tQ] 23))
  clear bb
  obtain ⟨za0, za1, _, _⟩ := (J.out.tail.tail.tail.tail.tail.tail.head).two
  obtain ⟨zc0, zc1, _, _⟩ := (J.out.tail.tail.tail.tail.tail.head).two
  obtain ⟨zf0, zf1, _, _⟩ := (J.out.tail.tail.tail.tail.head).two
  obtain ⟨zm0, zm1, _, _⟩ := (J.out.tail.head).two
  obtain ⟨zs0, zs1, _, _⟩ := (J.out.tail.tail.tail.head).two
  obtain ⟨zt0, zt1, _, _⟩ := (J.out.head).two
  obtain ⟨zx0, zx1, _, _⟩ := (J.out.tail.tail.head).two
  go_wp2_with fail
  refine (KC.out _).mono ?_
  rintro e w1 ⟨rfl, bb⟩
  have J := Lib.hid (J.out.below bb)
  have T := Lib.hid (T.out.below bb)
  clear bb
  obtain ⟨za0, za1, _, _⟩ := (J.out.tail.tail.tail.tail.tail.tail.head).two
  obtain ⟨zc0, zc1, _, _⟩ := (J.out.tail.tail.tail.tail.tail.head).two
  obtain ⟨zf0, zf1, _, _⟩ := (J.out.tail.tail.tail.tail.head).two
  obtain ⟨zm0, zm1, _, _⟩ := (J.out.tail.head).two
  obtain ⟨zs0, zs1, _, _⟩ := (J.out.tail.tail.tail.head).two
  obtain ⟨zt0, zt1, _, _⟩ := (J.out.head).two
  obtain ⟨zx0, zx1, _, _⟩ := (J.out.tail.tail.head).two
  go_wp2_with fail
  refine (KD2.out _).mono ?_
  rintro e w1 ⟨rfl, bb⟩
  have J := Lib.hid (J.out.below bb)
  have T := Lib.hid (T.out.below bb)
  clear bb
  obtain ⟨za0, za1, _, _⟩ := (J.out.tail.tail.tail.tail.tail.tail.head).two
  obtain ⟨zc0, zc1, _, _⟩ := (J.out.tail.tail.tail.tail.tail.head).two
  obtain ⟨zf0, zf1, _, _⟩ := (J.out.tail.tail.tail.tail.head).two
  obtain ⟨zm0, zm1, _, _⟩ := (J.out.tail.head).two
  obtain ⟨zs0, zs1, _, _⟩ := (J.out.tail.tail.tail.head).two
  obtain ⟨zt0, zt1, _, _⟩ := (J.out.head).two
  obtain ⟨zx0, zx1, _, _⟩ := (J.out.tail.tail.head).two
  go_wp2
  go_ret
  exact ⟨rfl, J.out.2.1⟩
set_option maxHeartbeats 4000000 in
theorem way_TZF (a b c d f g sP sQ e1 mP mQ e2 tP tQ e3 k : Int) (w : World) (hT : Tab w)
    (ka : ∀ W, Calls Tryd.prog 15 #[.agg #[.int .i64 a, .int .i64 b], .agg #[.int .i64 c, .int .i64 d]] W fun e w' => e = .returned (.tuple #[.agg #[.int .i64 sP, .int .i64 sQ], .int .i64 e1]) ∧ Below W.heap.size W w')
    (km : ∀ W, Calls Tryd.prog 18 #[.agg #[.int .i64 a, .int .i64 b], .agg #[.int .i64 c, .int .i64 d]] W fun e w' => e = .returned (.tuple #[.agg #[.int .i64 mP, .int .i64 mQ], .int .i64 e2]) ∧ Below W.heap.size W w')
    (kt : ∀ W, Calls Tryd.prog 15 #[.agg #[.int .i64 f, .int .i64 g], .agg #[.int .i64 c, .int .i64 d]] W fun e w' => e = .returned (.tuple #[.agg #[.int .i64 tP, .int .i64 tQ], .int .i64 e3]) ∧ Below W.heap.size W w')
    (ks : ∀ W, Calls Tryd.prog 17 #[.agg #[.int .i64 sP, .int .i64 sQ], .agg #[.int .i64 c, .int .i64 d]] W fun e w' => e = .returned (.tuple #[.agg #[.int .i64 a, .int .i64 b], .int .i64 0]) ∧ Below W.heap.size W w')
    (h1 : (e1 == 0) = true) (h1' : (e1 != 0) = false) (h2 : (e2 == 0) = true) (h2' : (c != 0) = false) (h3 : (e3 != 0) = true) :
    Calls Tryd.prog 6 #[.agg #[.int .i64 a, .int .i64 b], .agg #[.int .i64 c, .int .i64 d], .agg #[.int .i64 f, .int .i64 g]] w fun e w' => e = .returned (.bool true) ∧ Below w.heap.size w w' := by
  have KA := Lib.hid ka
  have KM := Lib.hid km
  have KT := Lib.hid kt
  have KS := Lib.hid ks
  clear ka km kt ks
  have qa : (a != a) = false := by simp
  have qb : (b != b) = false := by simp
  have qk : (k == k) = true := by simp
  have J := Lib.hid ((((Keeps.start w).alloc #[.int .i64 a, .int .i64 b] 23).alloc #[.int .i64 c, .int .i64 d] 23).alloc #[.int .i64 f, .int .i64 g] 23)
  simp only [alloc_size'] at J
  have T := Lib.hid (((hT.alloc (.cells #[.int .i64 a, .int .i64 b] 23)).alloc (.cells #[.int .i64 c, .int .i64 d] 23)).alloc (.cells #[.int .i64 f, .int .i64 g] 23))
  clear hT
  go_enter Tryd.func6, Tryd.ntmps6
  go_wp2_with fail
  refine (KA.out _).mono ?_
  rintro e w1 ⟨rfl, bb⟩
  have J := Lib.hid ((J.out.below bb).alloc #[.int .i64 sP, .int .i64 sQ] 23)
  have T := Lib.hid ((T.out.below bb).alloc (.cells #[.int .i64 sP, .int .i64 sQ] 23))
  clear bb
  obtain ⟨za0, za1, _, _⟩ := (J.out.tail.tail.tail.head).two
  obtain ⟨zc0, zc1, _, _⟩ := (J.out.tail.tail.head).two
  obtain ⟨zf0, zf1, _, _⟩ := (J.out.tail.head).two
  obtain ⟨zs0, zs1, _, _⟩ := (J.out.head).two
  go_wp2_with fail
  refine (lives3 _ T.out).mono ?_
  rintro e w1 ⟨rfl, bb⟩
  have T := Lib.hid (T.out.below bb)
  have J := Lib.hid (J.out.below bb)
  clear bb
  obtain ⟨za0, za1, _, _⟩ := (J.out.tail.tail.tail.head).two
  obtain ⟨zc0, zc1, _, _⟩ := (J.out.tail.tail.head).two
  obtain ⟨zf0, zf1, _, _⟩ := (J.out.tail.head).two
  obtain ⟨zs0, zs1, _, _⟩ := (J.out.head).two
  go_wp2_with fail
  refine (KS.out _).mono ?_
  rintro e w1 ⟨rfl, bb⟩
  have J := Lib.hid ((J.out.below bb).alloc #[.int .i64 a, .int .i64 b] 23)
  have T := Lib.hid ((T.out.below bb).alloc (.cells #[.int .i64 a, .int .i64 b] 23))
  clear bb
  obtain ⟨za0, za1, _, _⟩ := (J.out.tail.tail.tail.tail.head).two
  obtain ⟨zc0, zc1, _, _⟩ := (J.out.tail.tail.tail.head).two
  obtain ⟨zf0, zf1, _, _⟩ := (J.out.tail.tail.head).two
  obtain ⟨zs0, zs1, _, _⟩ := (J.out.tail.head).two
  obtain ⟨zx0, zx1, _, _⟩ := (J.out.head).two
  go_wp2_with fail
  refine (KM.out _).mono ?_
  rintro e w1 ⟨rfl, bb⟩
  have J := Lib.hid ((J.out.below bb).alloc #[.int .i64 mP, .int .i64 mQ] 23)
  have T := Lib.hid ((T.out.below bb).alloc (.cells #[.int .i64 mP, .int .i64 mQ] 23))
  clear bb
  obtain ⟨za0, za1, _, _⟩ := (J.out.tail.tail.tail.tail.tail.head).two
  obtain ⟨zc0, zc1, _, _⟩ := (J.out.tail.tail.tail.tail.head).two
  obtain ⟨zf0, zf1, _, _⟩ := (J.out.tail.tail.tail.head).two
  obtain ⟨zm0, zm1, _, _⟩ := (J.out.head).two
  obtain ⟨zs0, zs1, _, _⟩ := (J.out.tail.tail.head).two
  obtain ⟨zx0, zx1, _, _⟩ := (J.out.tail.head).two
  go_wp2_with fail
  refine (KT.out _).mono ?_
  rintro e w1 ⟨rfl, bb⟩
  have J := Lib.hid ((J.out.below bb).alloc #[.int .i64 tP, .int .i64 tQ] 23)
  have T := Lib.hid ((T.out.below bb).alloc (.cells #[.int .i64 tP, .int .i64 tQ] 23))
  clear bb
  obtain ⟨za0, za1, _, _⟩ := (J.out.tail.tail.tail.tail.tail.tail.head).two
  obtain ⟨zc0, zc1, _, _⟩ := (J.out.tail.tail.tail.tail.tail.head).two
  obtain ⟨zf0, zf1, _, _⟩ := (J.out.tail.tail.tail.tail.head).two
  obtain ⟨zm0, zm1, _, _⟩ := (J.out.tail.head).two
  obtain ⟨zs0, zs1, _, _⟩ := (J.out.tail.tail.tail.head).two
  obtain ⟨zt0, zt1, _, _⟩ := (J.out.head).two
  obtain ⟨zx0, zx1, _, _⟩ := (J.out.tail.tail.head).two
  go_wp2
  go_ret
  exact ⟨rfl, J.out.2.1⟩
set_option maxHeartbeats 4000000 in
theorem way_FTT (a b c d f g sP sQ e1 mP mQ e2 tP tQ e3 k : Int) (w : World) (hT : Tab w)
    (ka : ∀ W, Calls Tryd.prog 15 #[.agg #[.int .i64 a, .int .i64 b], .agg #[.int .i64 c, .int .i64 d]] W fun e w' => e = .returned (.tuple #[.agg #[.int .i64 sP, .int .i64 sQ], .int .i64 e1]) ∧ Below W.heap.size W w')
    (km : ∀ W, Calls Tryd.prog 18 #[.agg #[.int .i64 a, .int .i64 b], .agg #[.int .i64 c, .int .i64 d]] W fun e w' => e = .returned (.tuple #[.agg #[.int .i64 mP, .int .i64 mQ], .int .i64 e2]) ∧ Below W.heap.size W w')
    (kt : ∀ W, Calls Tryd.prog 15 #[.agg #[.int .i64 f, .int .i64 g], .agg #[.int .i64 c, .int .i64 d]] W fun e w' => e = .returned (.tuple #[.agg #[.int .i64 tP, .int .i64 tQ], .int .i64 e3]) ∧ Below W.heap.size W w')
    (kd : ∀ W, Calls Tryd.prog 19 #[.agg #[.int .i64 mP, .int .i64 mQ], .agg #[.int .i64 c, .int .i64 d]] W fun e w' => e = .returned (.tuple #[.agg #[.int .i64 a, .int .i64 b], .int .i64 0]) ∧ Below W.heap.size W w')
    (h1 : (e1 == 0) = false) (h1' : (e1 != 0) = true) (h2 : (e2 == 0) = true) (h2' : (c != 0) = true) (h3 : (e3 != 0) = false) :
    Calls Tryd.prog 6 #[.agg #[.int .i64 a, .int .i64 b], .agg #[.int .i64 c, .int .i64 d], .agg #[.int .i64 f, .int .i64 g]] w fun e w' => e = .returned (.bool true) ∧ Below w.heap.size w w' := by
  have KA := Lib.hid ka
  have KM := Lib.hid km
  have KT := Lib.hid kt
  have KD := Lib.hid kd
  clear ka km kt kd
  have qa : (a != a) = false := by simp
  have qb : (b != b) = false := by simp
  have qk : (k == k) = true := by simp
  have J := Lib.hid ((((Keeps.start w).alloc #[.int .i64 a, .int .i64 b] 23).alloc #[.int .i64 c, .int .i64 d] 23).alloc #[.int .i64 f, .int .i64 g] 23)
  simp only [alloc_size'] at J
  have T := Lib.hid (((hT.alloc (.cells #[.int .i64 a, .int .i64 b] 23)).alloc (.cells #[.int .i64 c, .int .i64 d] 23)).alloc (.cells #[.int .i64 f, .int .i64 g] 23))
  clear hT
  go_enter Tryd.func6, Tryd.ntmps6
  go_wp2_with fail
  refine (KA.out _).mono ?_
  rintro e w1 ⟨rfl, bb⟩
  have J := Lib.hid ((J.out.below bb).alloc #[.int .i64 sP, .int .i64 sQ] 23)
  have T := Lib.hid ((T.out.below bb).alloc (.cells #[.int .i64 sP, .int .i64 sQ] 23))
  clear bb
  obtain ⟨za0, za1, _, _⟩ := (J.out.tail.tail.tail.head).two
  obtain ⟨zc0, zc1, _, _⟩ := (J.out.tail.tail.head).two
  obtain ⟨zf0, zf1, _, _⟩ := (J.out.tail.head).two
  obtain ⟨zs0, zs1, _, _⟩ := (J.out.head).two
  go_wp2_with fail
  refine (lives3 _ T.out).mono ?_
  rintro e w1 ⟨rfl, bb⟩
  have T := Lib.hid (T.out.below bb)
  have J := Lib.hid (J.out.below bb)
  clear bb
  obtain ⟨za0, za1, _, _⟩ := (J.out.tail.tail.tail.head).two
  obtain ⟨zc0, zc1, _, _⟩ := (J.out.tail.tail.head).two
  obtain ⟨zf0, zf1, _, _⟩ := (J.out.tail.head).two
  obtain ⟨zs0, zs1, _, _⟩ := (J.out.head).two
  go_wp2_with fail
  refine (KM.out _).mono ?_
  rintro e w1 ⟨rfl, bb⟩
  have J := Lib.hid ((J.out.below bb).alloc #[.int .i64 mP, .int .i64 mQ] 23)
  have T := Lib.hid ((T.out.below bb).alloc (.cells #[.int .i64 mP, .int .i64 mQ] 23))
  clear bb
  obtain ⟨za0, za1, _, _⟩ := (J.out.tail.tail.tail.tail.head).two
  obtain ⟨zc0, zc1, _, _⟩ := (J.out.tail.tail.tail.head).two
  obtain ⟨zf0, zf1, _, _⟩ := (J.out.tail.tail.head).two
  obtain ⟨zm0, zm1, _, _⟩ := (J.out.head).two
  obtain ⟨zs0, zs1, _, _⟩ := (J.out.tail.head).two
  go_wp2_with fail
  refine (KD.out _).mono ?_
  rintro e w1 ⟨rfl, bb⟩
  have J := Lib.hid ((J.out.below bb).alloc #[.int .i64 a, .int .i64 b] 23)
  have T := Lib.hid ((T.out.below bb).alloc (.cells #[.int .i64 a, .int .i64 b] 23))
  clear bb
  obtain ⟨za0, za1, _, _⟩ := (J.out.tail.tail.tail.tail.tail.head).two
  obtain ⟨zc0, zc1, _, _⟩ := (J.out.tail.tail.tail.tail.head).two
  obtain ⟨zf0, zf1, _, _⟩ := (J.out.tail.tail.tail.head).two
  obtain ⟨zm0, zm1, _, _⟩ := (J.out.tail.head).two
  obtain ⟨zs0, zs1, _, _⟩ := (J.out.tail.tail.head).two
  obtain ⟨zy0, zy1, _, _⟩ := (J.out.head).two
  go_wp2_with fail
  refine (KT.out _).mono ?_
  rintro e w1 ⟨rfl, bb⟩
  have J := Lib.hid ((J.out.below bb).alloc #[.int .i64 tP, .int .i64 tQ] 23)
  have T := Lib.hid ((T.out.below bb).alloc (.cells #[.int .i64 tP, .int .i64 tQ] 23))
  clear bb
  obtain ⟨za0, za1, _, _⟩ := (J.out.tail.tail.tail.tail.tail.tail.head).two
  obtain ⟨zc0, zc1, _, _⟩ := (J.out.tail.tail.tail.tail.tail.head).two
  obtain ⟨zf0, zf1, _, _⟩ := (J.out.tail.tail.tail.tail.head).two
  obtain ⟨zm0, zm1, _, _⟩ := (J.out.tail.tail.head).two
  obtain ⟨zs0, zs1, _, _⟩ := (J.out.tail.tail.tail.head).two
  obtain ⟨zt0, zt1, _, _⟩ := (J.out.head).two
  obtain ⟨zy0, zy1, _, _⟩ := (J.out.tail.head).two
  go_wp2
  go_ret
  exact ⟨rfl, J.out.2.1⟩
set_option maxHeartbeats 4000000 in
theorem way_FTF (a b c d f g sP sQ e1 mP mQ e2 tP tQ e3 k : Int) (w : World) (hT : Tab w)
    (ka : ∀ W, Calls Tryd.prog 15 #[.agg #[.int .i64 a, .int .i64 b], .agg #[.int .i64 c, .int .i64 d]] W fun e w' => e = .returned (.tuple #[.agg #[.int .i64 sP, .int .i64 sQ], .int .i64 e1]) ∧ Below W.heap.size W w')
    (km : ∀ W, Calls Tryd.prog 18 #[.agg #[.int .i64 a, .int .i64 b], .agg #[.int .i64 c, .int .i64 d]] W fun e w' => e = .returned (.tuple #[.agg #[.int .i64 mP, .int .i64 mQ], .int .i64 e2]) ∧ Below W.heap.size W w')
    (kt : ∀ W, Calls Tryd.prog 15 #[.agg #[.int .i64 f, .int .i64 g], .agg #[.int .i64 c, .int .i64 d]] W fun e w' => e = .returned (.tuple #[.agg #[.int .i64 tP, .int .i64 tQ], .int .i64 e3]) ∧ Below W.heap.size W w')
    (kd : ∀ W, Calls Tryd.prog 19 #[.agg #[.int .i64 mP, .int .i64 mQ], .agg #[.int .i64 c, .int .i64 d]] W fun e w' => e = .returned (.tuple #[.agg #[.int .i64 a, .int .i64 b], .int .i64 0]) ∧ Below W.heap.size W w')
    (h1 : (e1 == 0) = false) (h1' : (e1 != 0) = true) (h2 : (e2 == 0) = true) (h2' : (c != 0) = true) (h3 : (e3 != 0) = true) :
    Calls Tryd.prog 6 #[.agg #[.int .i64 a, .int .i64 b], .agg #[.int .i64 c, .int .i64 d], .agg #[.int .i64 f, .int .i64 g]] w fun e w' => e = .returned (.bool true) ∧ Below w.heap.size w w' := by
  have KA := Lib.hid ka
  have KM := Lib.hid km
  have KT := Lib.hid kt
  have KD := Lib.hid kd
  clear ka km kt kd
  have qa : (a != a) = false := by simp
  have qb : (b != b) = false := by simp
  have qk : (k == k) = true := by simp
  have J := Lib.hid ((((Keeps.start w).alloc #[.int .i64 a, .int .i64 b] 23).alloc #[.int .i64 c, .int .i64 d] 23).alloc #[.int .i64 f, .int .i64 g] 23)
  simp only [alloc_size'] at J
  have T := Lib.hid (((hT.alloc (.cells #[.int .i64 a, .int .i64 b] 23)).alloc (.cells #[.int .i64 c, .int .i64 d] 23)).alloc (.cells #[.int .i64 f, .int .i64 g] 23))
  clear hT
  go_enter Tryd.func6, Tryd.ntmps6
  go_wp2_with fail
  refine (KA.out _).mono ?_
  rintro e w1 ⟨rfl, bb⟩
  have J := Lib.hid ((J.out.below bb).alloc #[.int .i64 sP, .int .i64 sQ] 23)
  have T := Lib.hid ((T.out.below bb).alloc (.cells #[.int .i64 sP, .int .i64 sQ] 23))
  clear bb
  obtain ⟨za0, za1, _, _⟩ := (J.out.tail.tail.tail.head).two
  obtain ⟨zc0, zc1, _, _⟩ := (J.out.tail.tail.head).two
  obtain ⟨zf0, zf1, _, _⟩ := (J.out.tail.head).two
  obtain ⟨zs0, zs1, _, _⟩ := (J.out.head).two
  go_wp2_with fail
  refine (lives3 _ T.out).mono ?_
  rintro e w1 ⟨rfl, bb⟩
  have T := Lib.hid (T.out.below bb)
  have J := Lib.hid (J.out.below bb)
  clear bb
  obtain ⟨za0, za1, _, _⟩ := (J.out.tail.tail.tail.head).two
  obtain ⟨zc0, zc1, _, _⟩ := (J.out.tail.tail.head).two
  obtain ⟨zf0, zf1, _, _⟩ := (J.out.tail.head).two
  obtain ⟨zs0, zs1, _, _⟩ := (J.out.head).two
  go_wp2_with fail
  refine (KM.out _).mono ?_
  rintro e w1 ⟨rfl, bb⟩
  have J := Lib.hid ((J.out.below bb).alloc #[.int .i64 mP, .int .i64 mQ] 23)
  have T := Lib.hid ((T.out.below bb).alloc (.cells #[.int .i64 mP, .int .i64 mQ] 23))
  clear bb
  obtain ⟨za0, za1, _, _⟩ := (J.out.tail.tail.tail.tail.head).two
  obtain ⟨zc0, zc1, _, _⟩ := (J.out.tail.tail.tail.head).two
  obtain ⟨zf0, zf1, _, _⟩ := (J.out.tail.tail.head).two
  obtain ⟨zm0, zm1, _, _⟩ := (J.out.head).two
  obtain ⟨zs0, zs1, _, _⟩ := (J.out.tail.head).two
  go_wp2_with fail
  refine (KD.out _).mono ?_
  rintro e w1 ⟨rfl, bb⟩
  have J := Lib.hid ((J.out.below bb).alloc #[.int .i64 a, .int .i64 b] 23)
  have T := Lib.hid ((T.out.below bb).alloc (.cells #[.int .i64 a, .int .i64 b] 23))
  clear bb
  obtain ⟨za0, za1, _, _⟩ := (J.out.tail.tail.tail.tail.tail.head).two
  obtain ⟨zc0, zc1, _, _⟩ := (J.out.tail.tail.tail.tail.head).two
  obtain ⟨zf0, zf1, _, _⟩ := (J.out.tail.tail.tail.head).two
  obtain ⟨zm0, zm1, _, _⟩ := (J.out.tail.head).two
  obtain ⟨zs0, zs1, _, _⟩ := (J.out.tail.tail.head).two
  obtain ⟨zy0, zy1, _, _⟩ := (J.out.head).two
  go_wp2_with fail
  refine (KT.out _).mono ?_
  rintro e w1 ⟨rfl, bb⟩
  have J := Lib.hid ((J.out.below bb).alloc #[.int .i64 tP, .int .i64 tQ] 23)
  have T := Lib.hid ((T.out.below bb).alloc (.cells #[.int .i64 tP, .int .i64 tQ] 23))
  clear bb
  obtain ⟨za0, za1, _, _⟩ := (J.out.tail.tail.tail.tail.tail.tail.head).two
  obtain ⟨zc0, zc1, _, _⟩ := (J.out.tail.tail.tail.tail.tail.head).two
  obtain ⟨zf0, zf1, _, _⟩ := (J.out.tail.tail.tail.tail.head).two
  obtain ⟨zm0, zm1, _, _⟩ := (J.out.tail.tail.head).two
  obtain ⟨zs0, zs1, _, _⟩ := (J.out.tail.tail.tail.head).two
  obtain ⟨zt0, zt1, _, _⟩ := (J.out.head).two
  obtain ⟨zy0, zy1, _, _⟩ := (J.out.tail.head).two
  go_wp2
  go_ret
  exact ⟨rfl, J.out.2.1⟩
set_option maxHeartbeats 4000000 in
theorem way_FFT (a b c d f g sP sQ e1 mP mQ e2 tP tQ e3 k : Int) (w : World) (hT : Tab w)
    (ka : ∀ W, Calls Tryd.prog 15 #[.agg #[.int .i64 a, .int .i64 b], .agg #[.int .i64 c, .int .i64 d]] W fun e w' => e = .returned (.tuple #[.agg #[.int .i64 sP, .int .i64 sQ], .int .i64 e1]) ∧ Below W.heap.size W w')
    (km : ∀ W, Calls Tryd.prog 18 #[.agg #[.int .i64 a, .int .i64 b], .agg #[.int .i64 c, .int .i64 d]] W fun e w' => e = .returned (.tuple #[.agg #[.int .i64 mP, .int .i64 mQ], .int .i64 e2]) ∧ Below W.heap.size W w')
    (kt : ∀ W, Calls Tryd.prog 15 #[.agg #[.int .i64 f, .int .i64 g], .agg #[.int .i64 c, .int .i64 d]] W fun e w' => e = .returned (.tuple #[.agg #[.int .i64 tP, .int .i64 tQ], .int .i64 e3]) ∧ Below W.heap.size W w')
    (h1 : (e1 == 0) = false) (h1' : (e1 != 0) = true) (h2 : (e2 == 0) = false) (h3 : (e3 != 0) = false) :
    Calls Tryd.prog 6 #[.agg #[.int .i64 a, .int .i64 b], .agg #[.int .i64 c, .int .i64 d], .agg #[.int .i64 f, .int .i64 g]] w fun e w' => e = .returned (.bool true) ∧ Below w.heap.size w w' := by
  have KA := Lib.hid ka
  have KM := Lib.hid km
  have KT := Lib.hid kt
  clear ka km kt
  have qa : (a != a) = false := by simp
  have qb : (b != b) = false := by simp
  have qk : (k == k) = true := by simp
  have J := Lib.hid ((((Keeps.start w).alloc #[.int .i64 a, .int .i64 b] 23).alloc #[.int .i64 c, .int .i64 d] 23).alloc #[.int .i64 f, .int .i64 g] 23)
  simp only [alloc_size'] at J
  have T := Lib.hid (((hT.alloc (.cells #[.int .i64 a, .int .i64 b] 23)).alloc (.cells #[.int .i64 c, .int .i64 d] 23)).alloc (.cells #[.int .i64 f, .int .i64 g] 23))
  clear hT
  go_enter Tryd.func6, Tryd.ntmps6
  go_wp2_with fail
  refine (KA.out _).mono ?_
  rintro e w1 ⟨rfl, bb⟩
  have J := Lib.hid ((J.out.below bb).alloc #[.int .i64 sP, .int .i64 sQ] 23)
  have T := Lib.hid ((T.out.below bb).alloc (.cells #[.int .i64 sP, .int .i64 sQ] 23))
  clear bb
  obtain ⟨za0, za1, _, _⟩ := (J.out.tail.tail.tail.head).two
  obtain ⟨zc0, zc1, _, _⟩ := (J.out.tail.tail.head).two
  obtain ⟨zf0, zf1, _, _⟩ := (J.out.tail.head).two
  obtain ⟨zs0, zs1, _, _⟩ := (J.out.head).two
  go_wp2_with fail
  refine (lives3 _ T.out).mono ?_
  rintro e w1 ⟨rfl, bb⟩
  have T := Lib.hid (T.out.below bb)
  have J := Lib.hid (J.out.below bb)
  clear bb
  obtain ⟨za0, za1, _, _⟩ := (J.out.tail.tail.tail.head).two
  obtain ⟨zc0, zc1, _, _⟩ := (J.out.tail.tail.head).two
  obtain ⟨zf0, zf1, _, _⟩ := (J.out.tail.head).two
  obtain ⟨zs0, zs1, _, _⟩ := (J.out.head).two
  go_wp2_with fail
  refine (KM.out _).mono ?_
  rintro e w1 ⟨rfl, bb⟩
  have J := Lib.hid ((J.out.below bb).alloc #[.int .i64 mP, .int .i64 mQ] 23)
  have T := Lib.hid ((T.out.below bb).alloc (.cells #[.int .i64 mP, .int .i64 mQ] 23))
  clear bb
  obtain ⟨za0, za1, _, _⟩ := (J.out.tail.tail.tail.tail.head).two
  obtain ⟨zc0, zc1, _, _⟩ := (J.out.tail.tail.tail.head).two
  obtain ⟨zf0, zf1, _, _⟩ := (J.out.tail.tail.head).two
  obtain ⟨zm0, zm1, _, _⟩ := (J.out.head).two
  obtain ⟨zs0, zs1, _, _⟩ := (J.out.tail.head).two
  go_wp2_with fail
  refine (KT.out _).mono ?_
  rintro e w1 ⟨rfl, bb⟩
  have J := Lib.hid ((J.out.below bb).alloc #[.int .i64 tP, .int .i64 tQ] 23)
  have T := Lib.hid ((T.out.below bb).alloc (.cells #[.int .i64 tP, .int .i64 tQ] 23))
  clear bb
  obtain ⟨za0, za1, _, _⟩ := (J.out.tail.tail.tail.tail.tail.head).two
  obtain ⟨zc0, zc1, _, _⟩ := (J.out.tail.tail.tail.tail.head).two
  obtain ⟨zf0, zf1, _, _⟩ := (J.out.tail.tail.tail.head).two
  obtain ⟨zm0, zm1, _, _⟩ := (J.out.tail.head).two
  obtain ⟨zs0, zs1, _, _⟩ := (J.out.tail.tail.head).two
  obtain ⟨zt0, zt1, _, _⟩ := (J.out.head).two
  go_wp2
  go_ret
  exact ⟨rfl, J.out.2.1⟩
set_option maxHeartbeats 4000000 in
theorem way_FFF (a b c d f g sP sQ e1 mP mQ e2 tP tQ e3 k : Int) (w : World) (hT : Tab w)
    (ka : ∀ W, Calls Tryd.prog 15 #[.agg #[.int .i64 a, .int .i64 b], .agg #[.int .i64 c, .int .i64 d]] W fun e w' => e = .returned (.tuple #[.agg #[.int .i64 sP, .int .i64 sQ], .int .i64 e1]) ∧ Below W.heap.size W w')
    (km : ∀ W, Calls Tryd.prog 18 #[.agg #[.int .i64 a, .int .i64 b], .agg #[.int .i64 c, .int .i64 d]] W fun e w' => e = .returned (.tuple #[.agg #[.int .i64 mP, .int .i64 mQ], .int .i64 e2]) ∧ Below W.heap.size W w')
    (kt : ∀ W, Calls Tryd.prog 15 #[.agg #[.int .i64 f, .int .i64 g], .agg #[.int .i64 c, .int .i64 d]] W fun e w' => e = .returned (.tuple #[.agg #[.int .i64 tP, .int .i64 tQ], .int .i64 e3]) ∧ Below W.heap.size W w')
    (h1 : (e1 == 0) = false) (h1' : (e1 != 0) = true) (h2 : (e2 == 0) = false) (h3 : (e3 != 0) = true) :
    Calls Tryd.prog 6 #[.agg #[.int .i64 a, .int .i64 b], .agg #[.int .i64 c, .int .i64 d], .agg #[.int .i64 f, .int .i64 g]] w fun e w' => e = .returned (.bool true) ∧ Below w.heap.size w w' := by
  have KA := Lib.hid ka
  have KM := Lib.hid km
  have KT := Lib.hid kt
  clear ka km kt
  have qa : (a != a) = false := by simp
  have qb : (b != b) = false := by simp
  have qk : (k == k) = true := by simp
  have J := Lib.hid ((((Keeps.start w).alloc #[.int .i64 a, .int .i64 b] 23).alloc #[.int .i64 c, .int .i64 d] 23).alloc #[.int .i64 f, .int .i64 g] 23)
  simp only [alloc_size'] at J
  have T := Lib.hid (((hT.alloc (.cells #[.int .i64 a, .int .i64 b] 23)).alloc (.cells #[.int .i64 c, .int .i64 d] 23)).alloc (.cells #[.int .i64 f, .int .i64 g] 23))
  clear hT
  go_enter Tryd.func6, Tryd.ntmps6
  go_wp2_with fail
  refine (KA.out _).mono ?_
  rintro e w1 ⟨rfl, bb⟩
  have J := Lib.hid ((J.out.below bb).alloc #[.int .i64 sP, .int .i64 sQ] 23)
  have T := Lib.hid ((T.out.below bb).alloc (.cells #[.int .i64 sP, .int .i64 sQ] 23))
  clear bb
  obtain ⟨za0, za1, _, _⟩ := (J.out.tail.tail.tail.head).two
  obtain ⟨zc0, zc1, _, _⟩ := (J.out.tail.tail.head).two
  obtain ⟨zf0, zf1, _, _⟩ := (J.out.tail.head).two
  obtain ⟨zs0, zs1, _, _⟩ := (J.out.head).two
  go_wp2_with fail
  refine (lives3 _ T.out).mono ?_
  rintro e w1 ⟨rfl, bb⟩
  have T := Lib.hid (T.out.below bb)
  have J := Lib.hid (J.out.below bb)
  clear bb
  obtain ⟨za0, za1, _, _⟩ := (J.out.tail.tail.tail.head).two
  obtain ⟨zc0, zc1, _, _⟩ := (J.out.tail.tail.head).two
  obtain ⟨zf0, zf1, _, _⟩ := (J.out.tail.head).two
  obtain ⟨zs0, zs1, _, _⟩ := (J.out.head).two
  go_wp2_with fail
  refine (KM.out _).mono ?_
  rintro e w1 ⟨rfl, bb⟩
  have J := Lib.hid ((J.out.below bb).alloc #[.int .i64 mP, .int .i64 mQ] 23)
  have T := Lib.hid ((T.out.below bb).alloc (.cells #[.int .i64 mP, .int .i64 mQ] 23))
  clear bb
  obtain ⟨za0, za1, _, _⟩ := (J.out.tail.tail.tail.tail.head).two
  obtain ⟨zc0, zc1, _, _⟩ := (J.out.tail.tail.tail.head).two
  obtain ⟨zf0, zf1, _, _⟩ := (J.out.tail.tail.head).two
  obtain ⟨zm0, zm1, _, _⟩ := (J.out.head).two
  obtain ⟨zs0, zs1, _, _⟩ := (J.out.tail.head).two
  go_wp2_with fail
  refine (KT.out _).mono ?_
  rintro e w1 ⟨rfl, bb⟩
  have J := Lib.hid ((J.out.below bb).alloc #[.int .i64 tP, .int .i64 tQ] 23)
  have T := Lib.hid ((T.out.below bb).alloc (.cells #[.int .i64 tP, .int .i64 tQ] 23))
  clear bb
  obtain ⟨za0, za1, _, _⟩ := (J.out.tail.tail.tail.tail.tail.head).two
  obtain ⟨zc0, zc1, _, _⟩ := (J.out.tail.tail.tail.tail.head).two
  obtain ⟨zf0, zf1, _, _⟩ := (J.out.tail.tail.tail.head).two
  obtain ⟨zm0, zm1, _, _⟩ := (J.out.tail.head).two
  obtain ⟨zs0, zs1, _, _⟩ := (J.out.tail.tail.head).two
  obtain ⟨zt0, zt1, _, _⟩ := (J.out.head).two
  go_wp2
  go_ret
  exact ⟨rfl, J.out.2.1⟩
set_option maxHeartbeats 4000000 in
theorem way_FZT (a b c d f g sP sQ e1 mP mQ e2 tP tQ e3 k : Int) (w : World) (hT : Tab w)
    (ka : ∀ W, Calls Tryd.prog 15 #[.agg #[.int .i64 a, .int .i64 b], .agg #[.int .i64 c, .int .i64 d]] W fun e w' => e = .returned (.tuple #[.agg #[.int .i64 sP, .int .i64 sQ], .int .i64 e1]) ∧ Below W.heap.size W w')
    (km : ∀ W, Calls Tryd.prog 18 #[.agg #[.int .i64 a, .int .i64 b], .agg #[.int .i64 c, .int .i64 d]] W fun e w' => e = .returned (.tuple #[.agg #[.int .i64 mP, .int .i64 mQ], .int .i64 e2]) ∧ Below W.heap.size W w')
    (kt : ∀ W, Calls Tryd.prog 15 #[.agg #[.int .i64 f, .int .i64 g], .agg #[.int .i64 c, .int .i64 d]] W fun e w' => e = .returned (.tuple #[.agg #[.int .i64 tP, .int .i64 tQ], .int .i64 e3]) ∧ Below W.heap.size W w')
    (h1 : (e1 == 0) = false) (h1' : (e1 != 0) = true) (h2 : (e2 == 0) = true) (h2' : (c != 0) = false) (h3 : (e3 != 0) = false) :
    Calls Tryd.prog 6 #[.agg #[.int .i64 a, .int .i64 b], .agg #[.int .i64 c, .int .i64 d], .agg #[.int .i64 f, .int .i64 g]] w fun e w' => e = .returned (.bool true) ∧ Below w.heap.size w w' := by
  have KA := Lib.hid ka
  have KM := Lib.hid km
  have KT := Lib.hid kt
  clear ka km kt
  have qa : (a != a) = false := by simp
  have qb : (b != b) = false := by simp
  have qk : (k == k) = true := by simp
  have J := Lib.hid ((((Keeps.start w).alloc #[.int .i64 a, .int .i64 b] 23).alloc #[.int .i64 c, .int .i64 d] 23).alloc #[.int .i64 f, .int .i64 g] 23)
  simp only [alloc_size'] at J
  have T := Lib.hid (((hT.alloc (.cells #[.int .i64 a, .int .i64 b] 23)).alloc (.cells #[.int .i64 c, .int .i64 d] 23)).alloc (.cells #[.int .i64 f, .int .i64 g] 23))
  clear hT
  go_enter Tryd.func6, Tryd.ntmps6
  go_wp2_with fail
  refine (KA.out _).mono ?_
  rintro e w1 ⟨rfl, bb⟩
  have J := Lib.hid ((J.out.below bb).alloc #[.int .i64 sP, .int .i64 sQ] 23)
  have T := Lib.hid ((T.out.below bb).alloc (.cells #[.int .i64 sP, .int .i64 sQ] 23))
  clear bb
  obtain ⟨za0, za1, _, _⟩ := (J.out.tail.tail.tail.head).two
  obtain ⟨zc0, zc1, _, _⟩ := (J.out.tail.tail.head).two
  obtain ⟨zf0, zf1, _, _⟩ := (J.out.tail.head).two
  obtain ⟨zs0, zs1, _, _⟩ := (J.out.head).two
  go_wp2_with fail
  refine (lives3 _ T.out).mono ?_
  rintro e w1 ⟨rfl, bb⟩
  have T := Lib.hid (T.out.below bb)
  have J := Lib.hid (J.out.below bb)
  clear bb
  obtain ⟨za0, za1, _, _⟩ := (J.out.tail.tail.tail.head).two
  obtain ⟨zc0, zc1, _, _⟩ := (J.out.tail.tail.head).two
  obtain ⟨zf0, zf1, _, _⟩ := (J.out.tail.head).two
  obtain ⟨zs0, zs1, _, _⟩ := (J.out.head).two
  go_wp2_with fail
  refine (KM.out _).mono ?_
  rintro e w1 ⟨rfl, bb⟩
  have J := Lib.hid ((J.out.below bb).alloc #[.int .i64 mP, .int .i64 mQ] 23)
  have T := Lib.hid ((T.out.below bb).alloc (.cells #[.int .i64 mP, .int .i64 mQ] 23))
  clear bb
  obtain ⟨za0, za1, _, _⟩ := (J.out.tail.tail.tail.tail.head).two
  obtain ⟨zc0, zc1, _, _⟩ := (J.out.tail.tail.tail.head).two
  obtain ⟨zf0, zf1, _, _⟩ := (J.out.tail.tail.head).two
  obtain ⟨zm0, zm1, _, _⟩ := (J.out.head).two
  obtain ⟨zs0, zs1, _, _⟩ := (J.out.tail.head).two
  go_wp2_with fail
  refine (KT.out _).mono ?_
  rintro e w1 ⟨rfl, bb⟩
  have J := Lib.hid ((J.out.below bb).alloc #[.int .i64 tP, .int .i64 tQ] 23)
  have T := Lib.hid ((T.out.below bb).alloc (.cells #[.int .i64 tP, .int .i64 tQ] 23))
  clear bb
  obtain ⟨za0, za1, _, _⟩ := (J.out.tail.tail.tail.tail.tail.head).two
  obtain ⟨zc0, zc1, _, _⟩ := (J.out.tail.tail.tail.tail.head).two
  obtain ⟨zf0, zf1, _, _⟩ := (J.out.tail.tail.tail.head).two
  obtain ⟨zm0, zm1, _, _⟩ := (J.out.tail.head).two
  obtain ⟨zs0, zs1, _, _⟩ := (J.out.tail.tail.head).two
  obtain ⟨zt0, zt1, _, _⟩ := (J.out.head).two
  go_wp2
  go_ret
  exact ⟨rfl, J.out.2.1⟩
set_option maxHeartbeats 4000000 in
theorem way_FZF (a b c d f g sP sQ e1 mP mQ e2 tP tQ e3 k : Int) (w : World) (hT : Tab w)
    (ka : ∀ W, Calls Tryd.prog 15 #[.agg #[.int .i64 a, .int .i64 b], .agg #[.int .i64 c, .int .i64 d]] W fun e w' => e = .returned (.tuple #[.agg #[.int .i64 sP, .int .i64 sQ], .int .i64 e1]) ∧ Below W.heap.size W w')
    (km : ∀ W, Calls Tryd.prog 18 #[.agg #[.int .i64 a, .int .i64 b], .agg #[.int .i64 c, .int .i64 d]] W fun e w' => e = .returned (.tuple #[.agg #[.int .i64 mP, .int .i64 mQ], .int .i64 e2]) ∧ Below W.heap.size W w')
    (kt : ∀ W, Calls Tryd.prog 15 #[.agg #[.int .i64 f, .int .i64 g], .agg #[.int .i64 c, .int .i64 d]] W fun e w' => e = .returned (.tuple #[.agg #[.int .i64 tP, .int .i64 tQ], .int .i64 e3]) ∧ Below W.heap.size W w')
    (h1 : (e1 == 0) = false) (h1' : (e1 != 0) = true) (h2 : (e2 == 0) = true) (h2' : (c != 0) = false) (h3 : (e3 != 0) = true) :
    Calls Tryd.prog 6 #[.agg #[.int .i64 a, .int .i64 b], .agg #[.int .i64 c, .int .i64 d], .agg #[.int .i64 f, .int .i64 g]] w fun e w' => e = .returned (.bool true) ∧ Below w.heap.size w w' := by
  have KA := Lib.hid ka
  have KM := Lib.hid km
  have KT := Lib.hid kt
  clear ka km kt
  have qa : (a != a) = false := by simp
  have qb : (b != b) = false := by simp
  have qk : (k == k) = true := by simp
  have J := Lib.hid ((((Keeps.start w).alloc #[.int .i64 a, .int .i64 b] 23).alloc #[.int .i64 c, .int .i64 d] 23).alloc #[.int .i64 f, .int .i64 g] 23)
  simp only [alloc_size'] at J
  have T := Lib.hid (((hT.alloc (.cells #[.int .i64 a, .int .i64 b] 23)).alloc (.cells #[.int .i64 c, .int .i64 d] 23)).alloc (.cells #[.int .i64 f, .int .i64 g] 23))
  clear hT
  go_enter Tryd.func6, Tryd.ntmps6
  go_wp2_with fail
  refine (KA.out _).mono ?_
  rintro e w1 ⟨rfl, bb⟩
  have J := Lib.hid ((J.out.below bb).alloc #[.int .i64 sP, .int .i64 sQ] 23)
  have T := Lib.hid ((T.out.below bb).alloc (.cells #[.int .i64 sP, .int .i64 sQ] 23))
  clear bb
  obtain ⟨za0, za1, _, _⟩ := (J.out.tail.tail.tail.head).two
  obtain ⟨zc0, zc1, _, _⟩ := (J.out.tail.tail.head).two
  obtain ⟨zf0, zf1, _, _⟩ := (J.out.tail.head).two
  obtain ⟨zs0, zs1, _, _⟩ := (J.out.head).two
  go_wp2_with fail
  refine (lives3 _ T.out).mono ?_
  rintro e w1 ⟨rfl, bb⟩
  have T := Lib.hid (T.out.below bb)
  have J := Lib.hid (J.out.below bb)
  clear bb
  obtain ⟨za0, za1, _, _⟩ := (J.out.tail.tail.tail.head).two
  obtain ⟨zc0, zc1, _, _⟩ := (J.out.tail.tail.head).two
  obtain ⟨zf0, zf1, _, _⟩ := (J.out.tail.head).two
  obtain ⟨zs0, zs1, _, _⟩ := (J.out.head).two
  go_wp2_with fail
  refine (KM.out _).mono ?_
  rintro e w1 ⟨rfl, bb⟩
  have J := Lib.hid ((J.out.below bb).alloc #[.int .i64 mP, .int .i64 mQ] 23)
  have T := Lib.hid ((T.out.below bb).alloc (.cells #[.int .i64 mP, .int .i64 mQ] 23))
  clear bb
  obtain ⟨za0, za1, _, _⟩ := (J.out.tail.tail.tail.tail.head).two
  obtain ⟨zc0, zc1, _, _⟩ := (J.out.tail.tail.tail.head).two
  obtain ⟨zf0, zf1, _, _⟩ := (J.out.tail.tail.head).two
  obtain ⟨zm0, zm1, _, _⟩ := (J.out.head).two
  obtain ⟨zs0, zs1, _, _⟩ := (J.out.tail.head).two
  go_wp2_with fail
  refine (KT.out _).mono ?_
  rintro e w1 ⟨rfl, bb⟩
  have J := Lib.hid ((J.out.below bb).alloc #[.int .i64 tP, .int .i64 tQ] 23)
  have T := Lib.hid ((T.out.below bb).alloc (.cells #[.int .i64 tP, .int .i64 tQ] 23))
  clear bb
  obtain ⟨za0, za1, _, _⟩ := (J.out.tail.tail.tail.tail.tail.head).two
  obtain ⟨zc0, zc1, _, _⟩ := (J.out.tail.tail.tail.tail.head).two
  obtain ⟨zf0, zf1, _, _⟩ := (J.out.tail.tail.tail.head).two
  obtain ⟨zm0, zm1, _, _⟩ := (J.out.tail.head).two
  obtain ⟨zs0, zs1, _, _⟩ := (J.out.tail.tail.head).two
  obtain ⟨zt0, zt1, _, _⟩ := (J.out.head).two
  go_wp2
  go_ret
  exact ⟨rfl, J.out.2.1⟩
theorem eq0 {x : Int} (h : x = 0) : (x == 0) = true ∧ (x != 0) = false := by subst h; exact ⟨rfl, rfl⟩
theorem ne0 {x : Int} (h : ¬ x = 0) : (x == 0) = false ∧ (x != 0) = true := by
  refine ⟨by simpa using h, by simpa using h⟩
theorem walk (a b : Int) (ha : I64 a) (hb : I64 b) (c d : Int) (hc : I64 c) (hd : I64 d) (f g : Int) (hf : I64 f) (hg : I64 g) (w : World) (hT : Tab w) :
    Calls Tryd.prog 6 #[.agg #[.int .i64 a, .int .i64 b], .agg #[.int .i64 c, .int .i64 d], .agg #[.int .i64 f, .int .i64 g]] w fun e w' => e = .returned (.bool true) ∧ Below w.heap.size w w' := by
  have KA := fun W => rat_add a b c d ha hb hc hd W
  have KM := fun W => rat_mul a b c d ha hb hc hd W
  have KT := fun W => rat_add f g c d hf hg hc hd W
  by_cases hE : doE a b c d (a * d + c * b) (b * d) = 0
  all_goals by_cases hH : doE f g c d (f * d + c * g) (g * d) = 0
  all_goals by_cases hG : doE a b c d (a * c) (b * d) = 0
  all_goals by_cases hZ : c = 0
  · have KS : ∀ W, Calls Tryd.prog 17 #[.agg #[.int .i64 (doP a b c d (a * d + c * b) (b * d)), .int .i64 (doQ a b c d (a * d + c * b) (b * d))], .agg #[.int .i64 c, .int .i64 d]] W fun e w' => e = .returned (.tuple #[.agg #[.int .i64 a, .int .i64 b], .int .i64 0]) ∧ Below W.heap.size W w' := by
      intro W
      have hi := do_i64 _ _ _ _ _ _ hE
      obtain ⟨_, hk⟩ := add_sub_back hE
      obtain ⟨k1, k2, k3⟩ := hk _ _ rfl rfl
      have h := rat_sub _ _ c d hi.1 hi.2 hc hd W
      unfold doV at h
      rw [k1, k2, k3] at h
      exact h
    obtain ⟨m1, m2⟩ := cmp_more hE hH
    obtain ⟨m3, m4⟩ := m2 _ _ _ _ rfl rfl rfl rfl
    have KC : ∀ W, Calls Tryd.prog 20 #[.agg #[.int .i64 a, .int .i64 b], .agg #[.int .i64 f, .int .i64 g]] W fun e w' => e = .returned (.tuple #[.int .i64 (cmN a b f g), .int .i64 0]) ∧ Below W.heap.size W w' := by
      intro W
      have h := rat_cmp a b f g ha hb hf hg W
      unfold cmV at h
      rw [m1] at h
      exact h
    have KC2 : ∀ W, Calls Tryd.prog 20 #[.agg #[.int .i64 (doP a b c d (a * d + c * b) (b * d)), .int .i64 (doQ a b c d (a * d + c * b) (b * d))], .agg #[.int .i64 (doP f g c d (f * d + c * g) (g * d)), .int .i64 (doQ f g c d (f * d + c * g) (g * d))]] W fun e w' => e = .returned (.tuple #[.int .i64 (cmN a b f g), .int .i64 0]) ∧ Below W.heap.size W w' := by
      intro W
      have hi := do_i64 _ _ _ _ _ _ hE
      have hj := do_i64 _ _ _ _ _ _ hH
      have h := rat_cmp _ _ _ _ hi.1 hi.2 hj.1 hj.2 W
      unfold cmV at h
      rw [m3, m4] at h
      exact h
    exact way_TZT _ _ _ _ _ _ _ _ _ _ _ _ _ _ _ (cmN a b f g) w hT KA KM KT KS KC KC2 (eq0 hE).1 (eq0 hE).2 (eq0 hG).1 (eq0 hZ).2 (eq0 hH).2
  · have KS : ∀ W, Calls Tryd.prog 17 #[.agg #[.int .i64 (doP a b c d (a * d + c * b) (b * d)), .int .i64 (doQ a b c d (a * d + c * b) (b * d))], .agg #[.int .i64 c, .int .i64 d]] W fun e w' => e = .returned (.tuple #[.agg #[.int .i64 a, .int .i64 b], .int .i64 0]) ∧ Below W.heap.size W w' := by
      intro W
      have hi := do_i64 _ _ _ _ _ _ hE
      obtain ⟨_, hk⟩ := add_sub_back hE
      obtain ⟨k1, k2, k3⟩ := hk _ _ rfl rfl
      have h := rat_sub _ _ c d hi.1 hi.2 hc hd W
      unfold doV at h
      rw [k1, k2, k3] at h
      exact h
    have KD : ∀ W, Calls Tryd.prog 19 #[.agg #[.int .i64 (doP a b c d (a * c) (b * d)), .int .i64 (doQ a b c d (a * c) (b * d))], .agg #[.int .i64 c, .int .i64 d]] W fun e w' => e = .returned (.tuple #[.agg #[.int .i64 a, .int .i64 b], .int .i64 0]) ∧ Below W.heap.size W w' := by
      intro W
      have hi := do_i64 _ _ _ _ _ _ hG
      obtain ⟨_, hk⟩ := mul_div_back hG hZ
      obtain ⟨k1, k2, k3⟩ := hk _ _ rfl rfl
      have h := rat_div _ _ c d hi.1 hi.2 hc hd W
      unfold doV at h
      rw [k1, k2, k3] at h
      exact h
    obtain ⟨m1, m2⟩ := cmp_more hE hH
    obtain ⟨m3, m4⟩ := m2 _ _ _ _ rfl rfl rfl rfl
    have KC : ∀ W, Calls Tryd.prog 20 #[.agg #[.int .i64 a, .int .i64 b], .agg #[.int .i64 f, .int .i64 g]] W fun e w' => e = .returned (.tuple #[.int .i64 (cmN a b f g), .int .i64 0]) ∧ Below W.heap.size W w' := by
      intro W
      have h := rat_cmp a b f g ha hb hf hg W
      unfold cmV at h
      rw [m1] at h
      exact h
    have KC2 : ∀ W, Calls Tryd.prog 20 #[.agg #[.int .i64 (doP a b c d (a * d + c * b) (b * d)), .int .i64 (doQ a b c d (a * d + c * b) (b * d))], .agg #[.int .i64 (doP f g c d (f * d + c * g) (g * d)), .int .i64 (doQ f g c d (f * d + c * g) (g * d))]] W fun e w' => e = .returned (.tuple #[.int .i64 (cmN a b f g), .int .i64 0]) ∧ Below W.heap.size W w' := by
      intro W
      have hi := do_i64 _ _ _ _ _ _ hE
      have hj := do_i64 _ _ _ _ _ _ hH
      have h := rat_cmp _ _ _ _ hi.1 hi.2 hj.1 hj.2 W
      unfold cmV at h
      rw [m3, m4] at h
      exact h
    exact way_TTT _ _ _ _ _ _ _ _ _ _ _ _ _ _ _ (cmN a b f g) w hT KA KM KT KS KD KC KC2 (eq0 hE).1 (eq0 hE).2 (eq0 hG).1 (ne0 hZ).2 (eq0 hH).2
  · have KS : ∀ W, Calls Tryd.prog 17 #[.agg #[.int .i64 (doP a b c d (a * d + c * b) (b * d)), .int .i64 (doQ a b c d (a * d + c * b) (b * d))], .agg #[.int .i64 c, .int .i64 d]] W fun e w' => e = .returned (.tuple #[.agg #[.int .i64 a, .int .i64 b], .int .i64 0]) ∧ Below W.heap.size W w' := by
      intro W
      have hi := do_i64 _ _ _ _ _ _ hE
      obtain ⟨_, hk⟩ := add_sub_back hE
      obtain ⟨k1, k2, k3⟩ := hk _ _ rfl rfl
      have h := rat_sub _ _ c d hi.1 hi.2 hc hd W
      unfold doV at h
      rw [k1, k2, k3] at h
      exact h
    obtain ⟨m1, m2⟩ := cmp_more hE hH
    obtain ⟨m3, m4⟩ := m2 _ _ _ _ rfl rfl rfl rfl
    have KC : ∀ W, Calls Tryd.prog 20 #[.agg #[.int .i64 a, .int .i64 b], .agg #[.int .i64 f, .int .i64 g]] W fun e w' => e = .returned (.tuple #[.int .i64 (cmN a b f g), .int .i64 0]) ∧ Below W.heap.size W w' := by
      intro W
      have h := rat_cmp a b f g ha hb hf hg W
      unfold cmV at h
      rw [m1] at h
      exact h
    have KC2 : ∀ W, Calls Tryd.prog 20 #[.agg #[.int .i64 (doP a b c d (a * d + c * b) (b * d)), .int .i64 (doQ a b c d (a * d + c * b) (b * d))], .agg #[.int .i64 (doP f g c d (f * d + c * g) (g * d)), .int .i64 (doQ f g c d (f * d + c * g) (g * d))]] W fun e w' => e = .returned (.tuple #[.int .i64 (cmN a b f g), .int .i64 0]) ∧ Below W.heap.size W w' := by
      intro W
      have hi := do_i64 _ _ _ _ _ _ hE
      have hj := do_i64 _ _ _ _ _ _ hH
      have h := rat_cmp _ _ _ _ hi.1 hi.2 hj.1 hj.2 W
      unfold cmV at h
      rw [m3, m4] at h
      exact h
    exact way_TFT _ _ _ _ _ _ _ _ _ _ _ _ _ _ _ (cmN a b f g) w hT KA KM KT KS KC KC2 (eq0 hE).1 (eq0 hE).2 (ne0 hG).1 (eq0 hH).2
  · have KS : ∀ W, Calls Tryd.prog 17 #[.agg #[.int .i64 (doP a b c d (a * d + c * b) (b * d)), .int .i64 (doQ a b c d (a * d + c * b) (b * d))], .agg #[.int .i64 c, .int .i64 d]] W fun e w' => e = .returned (.tuple #[.agg #[.int .i64 a, .int .i64 b], .int .i64 0]) ∧ Below W.heap.size W w' := by
      intro W
      have hi := do_i64 _ _ _ _ _ _ hE
      obtain ⟨_, hk⟩ := add_sub_back hE
      obtain ⟨k1, k2, k3⟩ := hk _ _ rfl rfl
      have h := rat_sub _ _ c d hi.1 hi.2 hc hd W
      unfold doV at h
      rw [k1, k2, k3] at h
      exact h
    obtain ⟨m1, m2⟩ := cmp_more hE hH
    obtain ⟨m3, m4⟩ := m2 _ _ _ _ rfl rfl rfl rfl
    have KC : ∀ W, Calls Tryd.prog 20 #[.agg #[.int .i64 a, .int .i64 b], .agg #[.int .i64 f, .int .i64 g]] W fun e w' => e = .returned (.tuple #[.int .i64 (cmN a b f g), .int .i64 0]) ∧ Below W.heap.size W w' := by
      intro W
      have h := rat_cmp a b f g ha hb hf hg W
      unfold cmV at h
      rw [m1] at h
      exact h
    have KC2 : ∀ W, Calls Tryd.prog 20 #[.agg #[.int .i64 (doP a b c d (a * d + c * b) (b * d)), .int .i64 (doQ a b c d (a * d + c * b) (b * d))], .agg #[.int .i64 (doP f g c d (f * d + c * g) (g * d)), .int .i64 (doQ f g c d (f * d + c * g) (g * d))]] W fun e w' => e = .returned (.tuple #[.int .i64 (cmN a b f g), .int .i64 0]) ∧ Below W.heap.size W w' := by
      intro W
      have hi := do_i64 _ _ _ _ _ _ hE
      have hj := do_i64 _ _ _ _ _ _ hH
      have h := rat_cmp _ _ _ _ hi.1 hi.2 hj.1 hj.2 W
      unfold cmV at h
      rw [m3, m4] at h
      exact h
    exact way_TFT _ _ _ _ _ _ _ _ _ _ _ _ _ _ _ (cmN a b f g) w hT KA KM KT KS KC KC2 (eq0 hE).1 (eq0 hE).2 (ne0 hG).1 (eq0 hH).2
  · have KS : ∀ W, Calls Tryd.prog 17 #[.agg #[.int .i64 (doP a b c d (a * d + c * b) (b * d)), .int .i64 (doQ a b c d (a * d + c * b) (b * d))], .agg #[.int .i64 c, .int .i64 d]] W fun e w' => e = .returned (.tuple #[.agg #[.int .i64 a, .int .i64 b], .int .i64 0]) ∧ Below W.heap.size W w' := by
      intro W
      have hi := do_i64 _ _ _ _ _ _ hE
      obtain ⟨_, hk⟩ := add_sub_back hE
      obtain ⟨k1, k2, k3⟩ := hk _ _ rfl rfl
      have h := rat_sub _ _ c d hi.1 hi.2 hc hd W
      unfold doV at h
      rw [k1, k2, k3] at h
      exact h
    exact way_TZF _ _ _ _ _ _ _ _ _ _ _ _ _ _ _ 0 w hT KA KM KT KS (eq0 hE).1 (eq0 hE).2 (eq0 hG).1 (eq0 hZ).2 (ne0 hH).2
  · have KS : ∀ W, Calls Tryd.prog 17 #[.agg #[.int .i64 (doP a b c d (a * d + c * b) (b * d)), .int .i64 (doQ a b c d (a * d + c * b) (b * d))], .agg #[.int .i64 c, .int .i64 d]] W fun e w' => e = .returned (.tuple #[.agg #[.int .i64 a, .int .i64 b], .int .i64 0]) ∧ Below W.heap.size W w' := by
      intro W
      have hi := do_i64 _ _ _ _ _ _ hE
      obtain ⟨_, hk⟩ := add_sub_back hE
      obtain ⟨k1, k2, k3⟩ := hk _ _ rfl rfl
      have h := rat_sub _ _ c d hi.1 hi.2 hc hd W
      unfold doV at h
      rw [k1, k2, k3] at h
      exact h
    have KD : ∀ W, Calls Tryd.prog 19 #[.agg #[.int .i64 (doP a b c d (a * c) (b * d)), .int .i64 (doQ a b c d (a * c) (b * d))], .agg #[.int .i64 c, .int .i64 d]] W fun e w' => e = .returned (.tuple #[.agg #[.int .i64 a, .int .i64 b], .int .i64 0]) ∧ Below W.heap.size W w' := by
      intro W
      have hi := do_i64 _ _ _ _ _ _ hG
      obtain ⟨_, hk⟩ := mul_div_back hG hZ
      obtain ⟨k1, k2, k3⟩ := hk _ _ rfl rfl
      have h := rat_div _ _ c d hi.1 hi.2 hc hd W
      unfold doV at h
      rw [k1, k2, k3] at h
      exact h
    exact way_TTF _ _ _ _ _ _ _ _ _ _ _ _ _ _ _ 0 w hT KA KM KT KS KD (eq0 hE).1 (eq0 hE).2 (eq0 hG).1 (ne0 hZ).2 (ne0 hH).2
  · have KS : ∀ W, Calls Tryd.prog 17 #[.agg #[.int .i64 (doP a b c d (a * d + c * b) (b * d)), .int .i64 (doQ a b c d (a * d + c * b) (b * d))], .agg #[.int .i64 c, .int .i64 d]] W fun e w' => e = .returned (.tuple #[.agg #[.int .i64 a, .int .i64 b], .int .i64 0]) ∧ Below W.heap.size W w' := by
      intro W
      have hi := do_i64 _ _ _ _ _ _ hE
      obtain ⟨_, hk⟩ := add_sub_back hE
      obtain ⟨k1, k2, k3⟩ := hk _ _ rfl rfl
      have h := rat_sub _ _ c d hi.1 hi.2 hc hd W
      unfold doV at h
      rw [k1, k2, k3] at h
      exact h
    exact way_TFF _ _ _ _ _ _ _ _ _ _ _ _ _ _ _ 0 w hT KA KM KT KS (eq0 hE).1 (eq0 hE).2 (ne0 hG).1 (ne0 hH).2
  · have KS : ∀ W, Calls Tryd.prog 17 #[.agg #[.int .i64 (doP a b c d (a * d + c * b) (b * d)), .int .i64 (doQ a b c d (a * d + c * b) (b * d))], .agg #[.int .i64 c, .int .i64 d]] W fun e w' => e = .returned (.tuple #[.agg #[.int .i64 a, .int .i64 b], .int .i64 0]) ∧ Below W.heap.size W w' := by
      intro W
      have hi := do_i64 _ _ _ _ _ _ hE
      obtain ⟨_, hk⟩ := add_sub_back hE
      obtain ⟨k1, k2, k3⟩ := hk _ _ rfl rfl
      have h := rat_sub _ _ c d hi.1 hi.2 hc hd W
      unfold doV at h
      rw [k1, k2, k3] at h
      exact h
    exact way_TFF _ _ _ _ _ _ _ _ _ _ _ _ _ _ _ 0 w hT KA KM KT KS (eq0 hE).1 (eq0 hE).2 (ne0 hG).1 (ne0 hH).2
  · exact way_FZT _ _ _ _ _ _ _ _ _ _ _ _ _ _ _ 0 w hT KA KM KT (ne0 hE).1 (ne0 hE).2 (eq0 hG).1 (eq0 hZ).2 (eq0 hH).2
  · have KD : ∀ W, Calls Tryd.prog 19 #[.agg #[.int .i64 (doP a b c d (a * c) (b * d)), .int .i64 (doQ a b c d (a * c) (b * d))], .agg #[.int .i64 c, .int .i64 d]] W fun e w' => e = .returned (.tuple #[.agg #[.int .i64 a, .int .i64 b], .int .i64 0]) ∧ Below W.heap.size W w' := by
      intro W
      have hi := do_i64 _ _ _ _ _ _ hG
      obtain ⟨_, hk⟩ := mul_div_back hG hZ
      obtain ⟨k1, k2, k3⟩ := hk _ _ rfl rfl
      have h := rat_div _ _ c d hi.1 hi.2 hc hd W
      unfold doV at h
      rw [k1, k2, k3] at h
      exact h
    exact way_FTT _ _ _ _ _ _ _ _ _ _ _ _ _ _ _ 0 w hT KA KM KT KD (ne0 hE).1 (ne0 hE).2 (eq0 hG).1 (ne0 hZ).2 (eq0 hH).2
  · exact way_FFT _ _ _ _ _ _ _ _ _ _ _ _ _ _ _ 0 w hT KA KM KT (ne0 hE).1 (ne0 hE).2 (ne0 hG).1 (eq0 hH).2
  · exact way_FFT _ _ _ _ _ _ _ _ _ _ _ _ _ _ _ 0 w hT KA KM KT (ne0 hE).1 (ne0 hE).2 (ne0 hG).1 (eq0 hH).2
  · exact way_FZF _ _ _ _ _ _ _ _ _ _ _ _ _ _ _ 0 w hT KA KM KT (ne0 hE).1 (ne0 hE).2 (eq0 hG).1 (eq0 hZ).2 (ne0 hH).2
  · have KD : ∀ W, Calls Tryd.prog 19 #[.agg #[.int .i64 (doP a b c d (a * c) (b * d)), .int .i64 (doQ a b c d (a * c) (b * d))], .agg #[.int .i64 c, .int .i64 d]] W fun e w' => e = .returned (.tuple #[.agg #[.int .i64 a, .int .i64 b], .int .i64 0]) ∧ Below W.heap.size W w' := by
      intro W
      have hi := do_i64 _ _ _ _ _ _ hG
      obtain ⟨_, hk⟩ := mul_div_back hG hZ
      obtain ⟨k1, k2, k3⟩ := hk _ _ rfl rfl
      have h := rat_div _ _ c d hi.1 hi.2 hc hd W
      unfold doV at h
      rw [k1, k2, k3] at h
      exact h
    exact way_FTF _ _ _ _ _ _ _ _ _ _ _ _ _ _ _ 0 w hT KA KM KT KD (ne0 hE).1 (ne0 hE).2 (eq0 hG).1 (ne0 hZ).2 (ne0 hH).2
  · exact way_FFF _ _ _ _ _ _ _ _ _ _ _ _ _ _ _ 0 w hT KA KM KT (ne0 hE).1 (ne0 hE).2 (ne0 hG).1 (ne0 hH).2
  · exact way_FFF _ _ _ _ _ _ _ _ _ _ _ _ _ _ _ 0 w hT KA KM KT (ne0 hE).1 (ne0 hE).2 (ne0 hG).1 (ne0 hH).2

set_option maxRecDepth 100000 in
theorem lifted (os : Os) (started : os.Started) (H : Type) (enc : TypeId × Value → H) :
    ReturnsInHanded {} Tryd.checked os 6 .any (fun w args => (Rows.ratioBackSpec.pre enc Tryd.prog Tryd.f6 [] false w args ∧ laidMetH Tryd.prog lst w) ∧ sizedMet enc Tryd.prog Tryd.f6 (OpenSpec.ofChange Rows.ratioBackSpec) false w args) (Rows.ratioBackSpec.post enc Tryd.prog Tryd.f6 false true false false) := by
  refine returnsInHanded_of_change_and (C := Tryd.checked) (X := fun w _ => laidMetH Tryd.prog lst w) (fun _ _ _ hh h => h.of_heap hh) own started (by kernel_rfl) Tryd.func6
    (ChangeSpec.witness_shaped (enc := enc) (C := Tryd.checked) (os := os) (X := fun w _ => laidMetH Tryd.prog lst w) false (World.doorLaid Tryd.prog 400 os) #[.agg #[.int .i64 0, .int .i64 0], .agg #[.int .i64 0, .int .i64 0], .agg #[.int .i64 0, .int .i64 0]] 8 rfl (World.shaped_of_RefB (by kernel_rfl) (by kernel_rfl)) (by kernel_rfl) (by kernel_rfl) (by kernel_rfl) (door_met os _)) ?_
  intro W base args ds gs before hval0 hW _ _ hL _
  have hT := tab_of hL
  have hval : ∀ (j : Nat) t v, Tryd.f6.params[j]? = some t → args[j]? = some v → Value.okWide Tryd.prog W .any base t v := hval0
  have hW' := hW
  obtain ⟨p, q, hA0, hV, rfl, hfz, hnd⟩ := hW
  obtain ⟨rfl, rfl⟩ := trodVars_none hV
  have hA : DataW.TrodAll enc Tryd.prog W 0 (fun _ => true) true Tryd.f6.params.toList args.toList ds p := hA0
  rw [Tryd.params6] at hA hval
  obtain ⟨v0, vs0, d0, ds0, p0, q0, hargs, rfl, rfl, h0, r0⟩ := trodAll_cons hA
  obtain ⟨v1, vs1, d1, ds1, p1, q1, rfl, rfl, rfl, h1, r1⟩ := trodAll_cons r0
  obtain ⟨v2, vs2, d2, ds2, p2, q2, rfl, rfl, rfl, h2, r2⟩ := trodAll_cons r1
  obtain ⟨rfl, rfl, rfl⟩ := trodAll_nil r2
  obtain rfl : args = #[v0, v1, v2] := by cases args; simp_all
  obtain ⟨a0, b0, rfl, w0, z0⟩ := open_two Tryd.underlying23 Tryd.underlying3 Tryd.underlying3 (by kernel_rfl) (by kernel_rfl) (hval 0 23 v0 rfl rfl) h0
  obtain ⟨a1, b1, rfl, w1, z1⟩ := open_two Tryd.underlying23 Tryd.underlying3 Tryd.underlying3 (by kernel_rfl) (by kernel_rfl) (hval 1 23 v1 rfl rfl) h1
  obtain ⟨a2, b2, rfl, w2, z2⟩ := open_two Tryd.underlying23 Tryd.underlying3 Tryd.underlying3 (by kernel_rfl) (by kernel_rfl) (hval 2 23 v2 rfl rfl) h2
  refine (walk a0 b0 (i64_of_wf w0) (i64_of_wf z0) a1 b1 (i64_of_wf w1) (i64_of_wf z1) a2 b2 (i64_of_wf w2) (i64_of_wf z2) W hT).mono fun e W' ⟨he, hg⟩ => ?_
  subst he
  exact ⟨_, rfl, law_post laid (by rw [Tryd.params6]; exact (by decide +kernel)) rfl (by kernel_rfl) Tryd.underlying4 rfl hW' hg⟩

theorem over : Rows.ratioBackRow.holds Tryd.pinned (OpenSpec.ofChange Rows.ratioBackSpec) :=
  OpenClaim.holds_of_wide 6 Tryd.f6 rfl rfl rfl rfl rfl rfl rfl ⟨rfl, rfl, rfl, rfl, rfl⟩ rfl rfl rfl rfl rfl (by kernel_rfl) Tryd.func6 (by kernel_rfl)
    (of_decide_eq_true (by kernel_rfl)) (by unfold Func.isWrapper; first | (rw [if_pos (by decide +kernel)]; kernel_rfl) | (rw [if_neg (by decide +kernel)]; exact ⟨rfl, rfl⟩))
    (fun os started H enc _ => lifted os started H enc)
theorem proved : Rows.RatioBackCardSaid :=
  Claim7.holds_tied_plain_at .later [] [.data, .data, .data] true Rows.ratioBackCard.stood.harness false
    over (fun _ h => by cases h) (by kernel_rfl) (fun _ h => by cases h) ratioBack_row_tie rfl ⟨rfl, rfl⟩ (by kernel_rfl) rfl
    (fun f fn hf hfn => by
      obtain rfl : f = 6 := Option.some.inj ((show Tryd.prog.funcNamed Rows.ratioBackRow.func = some 6 by kernel_rfl).symm.trans hf) |>.symm
      obtain rfl : fn = Tryd.f6 := (Option.some.inj (Tryd.func6.symm.trans hfn)).symm
      exact ⟨by kernel_rfl, fun j t ht => by
        rw [Tryd.params6] at ht
        have hm : t ∈ [23, 23, 23] := by simpa using Array.mem_of_getElem? ht
        have hall : ([23, 23, 23].all fun u => !Tryd.prog.wantsStandIn u) = true := by kernel_rfl
        exact (show Tryd.prog.wantsStandIn t = false by simpa using List.all_eq_true.1 hall t hm)⟩)
    (by kernel_rfl)
end Go.Proofs.YtbnpbflndnjmcaaDoor.ratioBack
