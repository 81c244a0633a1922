/- Contracts of package ratio: Add, Sub, Mul, Div, Cmp, Order. -/
import Derived.Test.YtbnpbflndnjmcaaDoorRatI
import Derived.Test.YtbnpbflndnjmcaaDoorWideC
namespace Go.Proofs.YtbnpbflndnjmcaaDoor
open Go.RowKit

theorem prod_bd {a b : Int} (ha : -1073741824 ≤ a ∧ a ≤ 1073741824) (hb : -1073741824 ≤ b ∧ b ≤ 1073741824) : -1152921504606846976 ≤ a * b ∧ a * b ≤ 1152921504606846976 := by
  have h := Nat.mul_le_mul (show a.natAbs ≤ 1073741824 by omega) (show b.natAbs ≤ 1073741824 by omega)
  rw [← Int.natAbs_mul] at h
  omega
def doP (p q p2 q2 n d : Int) : Int := if Valid p q ∧ Valid p2 q2 then ofP n d else 0
def doQ (p q p2 q2 n d : Int) : Int := if Valid p q ∧ Valid p2 q2 then ofQ n d else 0
def doE (p q p2 q2 n d : Int) : Int := if Valid p q ∧ Valid p2 q2 then ofE n d else 30
abbrev doV (p q p2 q2 n d : Int) : Value := .tuple #[.agg #[.int .i64 (doP p q p2 q2 n d), .int .i64 (doQ p q p2 q2 n d)], .int .i64 (doE p q p2 q2 n d)]
theorem doV_in {p q p2 q2 n d : Int} (h : Valid p q ∧ Valid p2 q2) : ofV n d = doV p q p2 q2 n d := by
  unfold doV doP doQ doE; rw [if_pos h, if_pos h, if_pos h]
theorem doV_out {p q p2 q2 n d : Int} (h : ¬ (Valid p q ∧ Valid p2 q2)) : .tuple #[.agg #[.int .i64 0, .int .i64 0], .int .i64 30] = doV p q p2 q2 n d := by
  unfold doV doP doQ doE; rw [if_neg h, if_neg h, if_neg h]

set_option maxHeartbeats 2000000 in
theorem rat_add (p q p2 q2 : Int) (hp : I64 p) (hq : I64 q) (hp2 : I64 p2) (hq2 : I64 q2) (w : World) :
    Calls Tryd.prog 15 #[.agg #[.int .i64 p, .int .i64 q], .agg #[.int .i64 p2, .int .i64 q2]] w fun e w' => e = .returned (doV p q p2 q2 (p * q2 + p2 * q) (q * q2)) ∧ Below w.heap.size w w' := by
  have KC := Lib.hid (fun g t W hx => rat_check2 p q p2 q2 hp hq hp2 hq2 g t W hx)
  have J0 := Lib.hid ((((Keeps.start w).alloc #[.int .i64 p, .int .i64 q] 23).alloc #[.int .i64 p2, .int .i64 q2] 23).alloc #[.int .i64 0, .int .i64 0] 23)
  simp only [alloc_size'] at J0
  have JC : Hid (∀ t, Keeps w.heap.size w _ _) := fun t => J0.out.alloc #[.int .i64 p, .int .i64 q, .int .i64 p2, .int .i64 q2] t
  simp only [alloc_size'] at JC
  rcases chk2_cases p q p2 q2 with ⟨hv, hc⟩ | ⟨hv, hc⟩
  · have b1 := prod_bd hv.1.2.1 (show -1073741824 ≤ q2 ∧ q2 ≤ 1073741824 by have := hv.2.1; omega)
    have b2 := prod_bd hv.2.2.1 (show -1073741824 ≤ q ∧ q ≤ 1073741824 by have := hv.1.1; omega)
    have b3 := prod_bd (show -1073741824 ≤ q ∧ q ≤ 1073741824 by have := hv.1.1; omega) (show -1073741824 ≤ q2 ∧ q2 ≤ 1073741824 by have := hv.2.1; omega)
    have b4 := prod_bd hv.1.2.1 hv.2.2.1
    have b5 := prod_bd (show -1073741824 ≤ q ∧ q ≤ 1073741824 by have := hv.1.1; omega) hv.2.2.1
    have KO := Lib.hid (fun W => rat_of (p * q2 + p2 * q) (q * q2) (by unfold I64; omega) (by unfold I64; omega) W)
    have HV := Lib.hid (doV_in (n := p * q2 + p2 * q) (d := q * q2) hv)
    rw [hc] at KC
    have HC := Lib.hid hc
    have HH := Lib.hid hv
    clear hc hv
    obtain ⟨b11, b12⟩ := b1; obtain ⟨b21, b22⟩ := b2; obtain ⟨b31, b32⟩ := b3; obtain ⟨b41, b42⟩ := b4; obtain ⟨b51, b52⟩ := b5
    go_enter Tryd.func15, Tryd.ntmps15
    go_wp2_with fail
    refine (KC.out _ _ _ (JC.out _).head).mono ?_
    rintro e w1 ⟨rfl, c1⟩
    have J1 := Lib.hid ((JC.out _).below c1).tail
    obtain ⟨r0, r1, r2, r3⟩ := J1.out.head.two
    obtain ⟨y0, y1, _, _⟩ := J1.out.tail.head.two
    obtain ⟨x0, x1, _, _⟩ := J1.out.tail.tail.head.two
    clear c1
    go_wp2_with fail
    refine (KO.out _).mono ?_
    rintro e w2 ⟨rfl, c2⟩
    have J2 := Lib.hid (J1.out.below c2)
    obtain ⟨r0, r1, r2, r3⟩ := J2.out.head.two
    clear c2
    go_wp2
    have Z := J2.out.head.set2 (.int .i64 (ofP (p * q2 + p2 * q) (q * q2))) (.int .i64 (ofQ (p * q2 + p2 * q) (q * q2)))
    obtain ⟨k0, k1, _, _⟩ := Z.two
    refine bodyPost_ret (v := ofV (p * q2 + p2 * q) (q * q2)) ?_ rfl ⟨by rw [HV.out], ?_⟩
    · simp [results, Tryd.results15, go_sem, k0, k1]
    · exact (J2.out.2.1.setCell (p := ⟨w.heap.size + 1 + 1, 0, none⟩) (by simp; omega) _).setCell (p := ⟨w.heap.size + 1 + 1, 1, none⟩) (by simp; omega) _
  · have HV := Lib.hid (doV_out (n := p * q2 + p2 * q) (d := q * q2) hv)
    rw [hc] at KC
    have HC := Lib.hid hc
    clear hc hv
    go_enter Tryd.func15, Tryd.ntmps15
    go_wp2_with fail
    refine (KC.out _ _ _ (JC.out _).head).mono ?_
    rintro e w1 ⟨rfl, c1⟩
    have J1 := Lib.hid ((JC.out _).below c1).tail
    obtain ⟨r0, r1, r2, r3⟩ := J1.out.head.two
    clear c1
    go_wp2
    have Z := J1.out.head.set2 (.int .i64 0) (.int .i64 0)
    obtain ⟨k0, k1, _, _⟩ := Z.two
    refine bodyPost_ret (v := .tuple #[.agg #[.int .i64 0, .int .i64 0], .int .i64 30]) ?_ rfl ⟨by rw [HV.out], ?_⟩
    · simp [results, Tryd.results15, go_sem, k0, k1]
    · exact (J1.out.2.1.setCell (p := ⟨w.heap.size + 1 + 1, 0, none⟩) (by simp; omega) _).setCell (p := ⟨w.heap.size + 1 + 1, 1, none⟩) (by simp; omega) _

set_option maxHeartbeats 2000000 in
theorem rat_sub (p q p2 q2 : Int) (hp : I64 p) (hq : I64 q) (hp2 : I64 p2) (hq2 : I64 q2) (w : World) :
    Calls Tryd.prog 17 #[.agg #[.int .i64 p, .int .i64 q], .agg #[.int .i64 p2, .int .i64 q2]] w fun e w' => e = .returned (doV p q p2 q2 (p * q2 - p2 * q) (q * q2)) ∧ Below w.heap.size w w' := by
  have KC := Lib.hid (fun g t W hx => rat_check2 p q p2 q2 hp hq hp2 hq2 g t W hx)
  have J0 := Lib.hid ((((Keeps.start w).alloc #[.int .i64 p, .int .i64 q] 23).alloc #[.int .i64 p2, .int .i64 q2] 23).alloc #[.int .i64 0, .int .i64 0] 23)
  simp only [alloc_size'] at J0
  have JC : Hid (∀ t, Keeps w.heap.size w _ _) := fun t => J0.out.alloc #[.int .i64 p, .int .i64 q, .int .i64 p2, .int .i64 q2] t
  simp only [alloc_size'] at JC
  rcases chk2_cases p q p2 q2 with ⟨hv, hc⟩ | ⟨hv, hc⟩
  · have b1 := prod_bd hv.1.2.1 (show -1073741824 ≤ q2 ∧ q2 ≤ 1073741824 by have := hv.2.1; omega)
    have b2 := prod_bd hv.2.2.1 (show -1073741824 ≤ q ∧ q ≤ 1073741824 by have := hv.1.1; omega)
    have b3 := prod_bd (show -1073741824 ≤ q ∧ q ≤ 1073741824 by have := hv.1.1; omega) (show -1073741824 ≤ q2 ∧ q2 ≤ 1073741824 by have := hv.2.1; omega)
    have b4 := prod_bd hv.1.2.1 hv.2.2.1
    have b5 := prod_bd (show -1073741824 ≤ q ∧ q ≤ 1073741824 by have := hv.1.1; omega) hv.2.2.1
    have KO := Lib.hid (fun W => rat_of (p * q2 - p2 * q) (q * q2) (by unfold I64; omega) (by unfold I64; omega) W)
    have HV := Lib.hid (doV_in (n := p * q2 - p2 * q) (d := q * q2) hv)
    rw [hc] at KC
    have HC := Lib.hid hc
    have HH := Lib.hid hv
    clear hc hv
    obtain ⟨b11, b12⟩ := b1; obtain ⟨b21, b22⟩ := b2; obtain ⟨b31, b32⟩ := b3; obtain ⟨b41, b42⟩ := b4; obtain ⟨b51, b52⟩ := b5
    go_enter Tryd.func17, Tryd.ntmps17
    go_wp2_with fail
    refine (KC.out _ _ _ (JC.out _).head).mono ?_
    rintro e w1 ⟨rfl, c1⟩
    have J1 := Lib.hid ((JC.out _).below c1).tail
    obtain ⟨r0, r1, r2, r3⟩ := J1.out.head.two
    obtain ⟨y0, y1, _, _⟩ := J1.out.tail.head.two
    obtain ⟨x0, x1, _, _⟩ := J1.out.tail.tail.head.two
    clear c1
    go_wp2_with fail
    refine (KO.out _).mono ?_
    rintro e w2 ⟨rfl, c2⟩
    have J2 := Lib.hid (J1.out.below c2)
    obtain ⟨r0, r1, r2, r3⟩ := J2.out.head.two
    clear c2
    go_wp2
    have Z := J2.out.head.set2 (.int .i64 (ofP (p * q2 - p2 * q) (q * q2))) (.int .i64 (ofQ (p * q2 - p2 * q) (q * q2)))
    obtain ⟨k0, k1, _, _⟩ := Z.two
    refine bodyPost_ret (v := ofV (p * q2 - p2 * q) (q * q2)) ?_ rfl ⟨by rw [HV.out], ?_⟩
    · simp [results, Tryd.results17, go_sem, k0, k1]
    · exact (J2.out.2.1.setCell (p := ⟨w.heap.size + 1 + 1, 0, none⟩) (by simp; omega) _).setCell (p := ⟨w.heap.size + 1 + 1, 1, none⟩) (by simp; omega) _
  · have HV := Lib.hid (doV_out (n := p * q2 - p2 * q) (d := q * q2) hv)
    rw [hc] at KC
    have HC := Lib.hid hc
    clear hc hv
    go_enter Tryd.func17, Tryd.ntmps17
    go_wp2_with fail
    refine (KC.out _ _ _ (JC.out _).head).mono ?_
    rintro e w1 ⟨rfl, c1⟩
    have J1 := Lib.hid ((JC.out _).below c1).tail
    obtain ⟨r0, r1, r2, r3⟩ := J1.out.head.two
    clear c1
    go_wp2
    have Z := J1.out.head.set2 (.int .i64 0) (.int .i64 0)
    obtain ⟨k0, k1, _, _⟩ := Z.two
    refine bodyPost_ret (v := .tuple #[.agg #[.int .i64 0, .int .i64 0], .int .i64 30]) ?_ rfl ⟨by rw [HV.out], ?_⟩
    · simp [results, Tryd.results17, go_sem, k0, k1]
    · exact (J1.out.2.1.setCell (p := ⟨w.heap.size + 1 + 1, 0, none⟩) (by simp; omega) _).setCell (p := ⟨w.heap.size + 1 + 1, 1, none⟩) (by simp; omega) _

set_option maxHeartbeats 2000000 in
theorem rat_mul (p q p2 q2 : Int) (hp : I64 p) (hq : I64 q) (hp2 : I64 p2) (hq2 : I64 q2) (w : World) :
    Calls Tryd.prog 18 #[.agg #[.int .i64 p, .int .i64 q], .agg #[.int .i64 p2, .int .i64 q2]] w fun e w' => e = .returned (doV p q p2 q2 (p * p2) (q * q2)) ∧ Below w.heap.size w w' := by
  have KC := Lib.hid (fun g t W hx => rat_check2 p q p2 q2 hp hq hp2 hq2 g t W hx)
  have J0 := Lib.hid ((((Keeps.start w).alloc #[.int .i64 p, .int .i64 q] 23).alloc #[.int .i64 p2, .int .i64 q2] 23).alloc #[.int .i64 0, .int .i64 0] 23)
  simp only [alloc_size'] at J0
  have JC : Hid (∀ t, Keeps w.heap.size w _ _) := fun t => J0.out.alloc #[.int .i64 p, .int .i64 q, .int .i64 p2, .int .i64 q2] t
  simp only [alloc_size'] at JC
  rcases chk2_cases p q p2 q2 with ⟨hv, hc⟩ | ⟨hv, hc⟩
  · have b1 := prod_bd hv.1.2.1 (show -1073741824 ≤ q2 ∧ q2 ≤ 1073741824 by have := hv.2.1; omega)
    have b2 := prod_bd hv.2.2.1 (show -1073741824 ≤ q ∧ q ≤ 1073741824 by have := hv.1.1; omega)
    have b3 := prod_bd (show -1073741824 ≤ q ∧ q ≤ 1073741824 by have := hv.1.1; omega) (show -1073741824 ≤ q2 ∧ q2 ≤ 1073741824 by have := hv.2.1; omega)
    have b4 := prod_bd hv.1.2.1 hv.2.2.1
    have b5 := prod_bd (show -1073741824 ≤ q ∧ q ≤ 1073741824 by have := hv.1.1; omega) hv.2.2.1
    have KO := Lib.hid (fun W => rat_of (p * p2) (q * q2) (by unfold I64; omega) (by unfold I64; omega) W)
    have HV := Lib.hid (doV_in (n := p * p2) (d := q * q2) hv)
    rw [hc] at KC
    have HC := Lib.hid hc
    have HH := Lib.hid hv
    clear hc hv
    obtain ⟨b11, b12⟩ := b1; obtain ⟨b21, b22⟩ := b2; obtain ⟨b31, b32⟩ := b3; obtain ⟨b41, b42⟩ := b4; obtain ⟨b51, b52⟩ := b5
    go_enter Tryd.func18, Tryd.ntmps18
    go_wp2_with fail
    refine (KC.out _ _ _ (JC.out _).head).mono ?_
    rintro e w1 ⟨rfl, c1⟩
    have J1 := Lib.hid ((JC.out _).below c1).tail
    obtain ⟨r0, r1, r2, r3⟩ := J1.out.head.two
    obtain ⟨y0, y1, _, _⟩ := J1.out.tail.head.two
    obtain ⟨x0, x1, _, _⟩ := J1.out.tail.tail.head.two
    clear c1
    go_wp2_with fail
    refine (KO.out _).mono ?_
    rintro e w2 ⟨rfl, c2⟩
    have J2 := Lib.hid (J1.out.below c2)
    obtain ⟨r0, r1, r2, r3⟩ := J2.out.head.two
    clear c2
    go_wp2
    have Z := J2.out.head.set2 (.int .i64 (ofP (p * p2) (q * q2))) (.int .i64 (ofQ (p * p2) (q * q2)))
    obtain ⟨k0, k1, _, _⟩ := Z.two
    refine bodyPost_ret (v := ofV (p * p2) (q * q2)) ?_ rfl ⟨by rw [HV.out], ?_⟩
    · simp [results, Tryd.results18, go_sem, k0, k1]
    · exact (J2.out.2.1.setCell (p := ⟨w.heap.size + 1 + 1, 0, none⟩) (by simp; omega) _).setCell (p := ⟨w.heap.size + 1 + 1, 1, none⟩) (by simp; omega) _
  · have HV := Lib.hid (doV_out (n := p * p2) (d := q * q2) hv)
    rw [hc] at KC
    have HC := Lib.hid hc
    clear hc hv
    go_enter Tryd.func18, Tryd.ntmps18
    go_wp2_with fail
    refine (KC.out _ _ _ (JC.out _).head).mono ?_
    rintro e w1 ⟨rfl, c1⟩
    have J1 := Lib.hid ((JC.out _).below c1).tail
    obtain ⟨r0, r1, r2, r3⟩ := J1.out.head.two
    clear c1
    go_wp2
    have Z := J1.out.head.set2 (.int .i64 0) (.int .i64 0)
    obtain ⟨k0, k1, _, _⟩ := Z.two
    refine bodyPost_ret (v := .tuple #[.agg #[.int .i64 0, .int .i64 0], .int .i64 30]) ?_ rfl ⟨by rw [HV.out], ?_⟩
    · simp [results, Tryd.results18, go_sem, k0, k1]
    · exact (J1.out.2.1.setCell (p := ⟨w.heap.size + 1 + 1, 0, none⟩) (by simp; omega) _).setCell (p := ⟨w.heap.size + 1 + 1, 1, none⟩) (by simp; omega) _

set_option maxHeartbeats 2000000 in
theorem rat_div (p q p2 q2 : Int) (hp : I64 p) (hq : I64 q) (hp2 : I64 p2) (hq2 : I64 q2) (w : World) :
    Calls Tryd.prog 19 #[.agg #[.int .i64 p, .int .i64 q], .agg #[.int .i64 p2, .int .i64 q2]] w fun e w' => e = .returned (doV p q p2 q2 (p * q2) (q * p2)) ∧ Below w.heap.size w w' := by
  have KC := Lib.hid (fun g t W hx => rat_check2 p q p2 q2 hp hq hp2 hq2 g t W hx)
  have J0 := Lib.hid ((((Keeps.start w).alloc #[.int .i64 p, .int .i64 q] 23).alloc #[.int .i64 p2, .int .i64 q2] 23).alloc #[.int .i64 0, .int .i64 0] 23)
  simp only [alloc_size'] at J0
  have JC : Hid (∀ t, Keeps w.heap.size w _ _) := fun t => J0.out.alloc #[.int .i64 p, .int .i64 q, .int .i64 p2, .int .i64 q2] t
  simp only [alloc_size'] at JC
  rcases chk2_cases p q p2 q2 with ⟨hv, hc⟩ | ⟨hv, hc⟩
  · have b1 := prod_bd hv.1.2.1 (show -1073741824 ≤ q2 ∧ q2 ≤ 1073741824 by have := hv.2.1; omega)
    have b2 := prod_bd hv.2.2.1 (show -1073741824 ≤ q ∧ q ≤ 1073741824 by have := hv.1.1; omega)
    have b3 := prod_bd (show -1073741824 ≤ q ∧ q ≤ 1073741824 by have := hv.1.1; omega) (show -1073741824 ≤ q2 ∧ q2 ≤ 1073741824 by have := hv.2.1; omega)
    have b4 := prod_bd hv.1.2.1 hv.2.2.1
    have b5 := prod_bd (show -1073741824 ≤ q ∧ q ≤ 1073741824 by have := hv.1.1; omega) hv.2.2.1
    have KO := Lib.hid (fun W => rat_of (p * q2) (q * p2) (by unfold I64; omega) (by unfold I64; omega) W)
    have HV := Lib.hid (doV_in (n := p * q2) (d := q * p2) hv)
    rw [hc] at KC
    have HC := Lib.hid hc
    have HH := Lib.hid hv
    clear hc hv
    obtain ⟨b11, b12⟩ := b1; obtain ⟨b21, b22⟩ := b2; obtain ⟨b31, b32⟩ := b3; obtain ⟨b41, b42⟩ := b4; obtain ⟨b51, b52⟩ := b5
    go_enter Tryd.func19, Tryd.ntmps19
    go_wp2_with fail
    refine (KC.out _ _ _ (JC.out _).head).mono ?_
    rintro e w1 ⟨rfl, c1⟩
    have J1 := Lib.hid ((JC.out _).below c1).tail
    obtain ⟨r0, r1, r2, r3⟩ := J1.out.head.two
    obtain ⟨y0, y1, _, _⟩ := J1.out.tail.head.two
    obtain ⟨x0, x1, _, _⟩ := J1.out.tail.tail.head.two
    clear c1
    go_wp2_with fail
    refine (KO.out _).mono ?_
    rintro e w2 ⟨rfl, c2⟩
    have J2 := Lib.hid (J1.out.below c2)
    obtain ⟨r0, r1, r2, r3⟩ := J2.out.head.two
    clear c2
    go_wp2
    have Z := J2.out.head.set2 (.int .i64 (ofP (p * q2) (q * p2))) (.int .i64 (ofQ (p * q2) (q * p2)))
    obtain ⟨k0, k1, _, _⟩ := Z.two
    refine bodyPost_ret (v := ofV (p * q2) (q * p2)) ?_ rfl ⟨by rw [HV.out], ?_⟩
    · simp [results, Tryd.results19, go_sem, k0, k1]
    · exact (J2.out.2.1.setCell (p := ⟨w.heap.size + 1 + 1, 0, none⟩) (by simp; omega) _).setCell (p := ⟨w.heap.size + 1 + 1, 1, none⟩) (by simp; omega) _
  · have HV := Lib.hid (doV_out (n := p * q2) (d := q * p2) hv)
    rw [hc] at KC
    have HC := Lib.hid hc
    clear hc hv
    go_enter Tryd.func19, Tryd.ntmps19
    go_wp2_with fail
    refine (KC.out _ _ _ (JC.out _).head).mono ?_
    rintro e w1 ⟨rfl, c1⟩
    have J1 := Lib.hid ((JC.out _).below c1).tail
    obtain ⟨r0, r1, r2, r3⟩ := J1.out.head.two
    clear c1
    go_wp2
    have Z := J1.out.head.set2 (.int .i64 0) (.int .i64 0)
    obtain ⟨k0, k1, _, _⟩ := Z.two
    refine bodyPost_ret (v := .tuple #[.agg #[.int .i64 0, .int .i64 0], .int .i64 30]) ?_ rfl ⟨by rw [HV.out], ?_⟩
    · simp [results, Tryd.results19, go_sem, k0, k1]
    · exact (J1.out.2.1.setCell (p := ⟨w.heap.size + 1 + 1, 0, none⟩) (by simp; omega) _).setCell (p := ⟨w.heap.size + 1 + 1, 1, none⟩) (by simp; omega) _
end Go.Proofs.YtbnpbflndnjmcaaDoor
