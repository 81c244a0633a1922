/- Contracts of copseref03: Cmp, Do, Ceil. -/
import Derived.Test.YtihfhdnldpjjdaaRatH
namespace Go.Proofs.Ytihfhdnldpjjdaa
open Go.RowKit

theorem isB_not {p q : Int} (h : ¬ Valid p q) : isB p q = false := decide_eq_false h
set_option maxHeartbeats 2000000 in
theorem ref3_add (p q p2 q2 : Int) (hp : I64 p) (hq : I64 q) (hp2 : I64 p2) (hq2 : I64 q2) (w : World) :
    Calls Try.prog 55 #[.int .i64 0, .agg #[.int .i64 p, .int .i64 q], .agg #[.int .i64 p2, .int .i64 q2]] w fun e w' => e = .returned (doV p q p2 q2 (p * q2 + p2 * q) (q * q2)) ∧ Below w.heap.size w w' := by
  have KA := Lib.hid (fun W => ref3_is p q hp hq W)
  have KB := Lib.hid (fun W => ref3_is p2 q2 hp2 hq2 W)
  have JJ := Lib.hid ((((Keeps.start w).alloc #[.int .i64 p, .int .i64 q] 38).alloc #[.int .i64 p2, .int .i64 q2] 38).alloc #[.int .i64 0, .int .i64 0] 38)
  simp only [alloc_size'] at JJ
  by_cases va : Valid p q
  · have VA := Lib.hid (isB_of va)
    by_cases vb : Valid p2 q2
    · have VB := Lib.hid (isB_of vb)
      have hv : Valid p q ∧ Valid p2 q2 := ⟨va, vb⟩
      have b1 := prod_bd hv.1.2.1 (show -1073741824 ≤ q2 ∧ q2 ≤ 1073741824 by have := hv.2.1; omega)
      have b2 := prod_bd hv.2.2.1 (show -1073741824 ≤ q ∧ q ≤ 1073741824 by have := hv.1.1; omega)
      have b3 := prod_bd (show -1073741824 ≤ q ∧ q ≤ 1073741824 by have := hv.1.1; omega) (show -1073741824 ≤ q2 ∧ q2 ≤ 1073741824 by have := hv.2.1; omega)
      have b4 := prod_bd hv.1.2.1 hv.2.2.1
      have b5 := prod_bd (show -1073741824 ≤ q ∧ q ≤ 1073741824 by have := hv.1.1; omega) hv.2.2.1
      have KO := Lib.hid (fun W => ref3_of (p * q2 + p2 * q) (q * q2) (by unfold I64; omega) (by unfold I64; omega) W)
      have HV := Lib.hid (doV_in (n := p * q2 + p2 * q) (d := q * q2) hv)
      clear hv va vb
      obtain ⟨b11, b12⟩ := b1; obtain ⟨b21, b22⟩ := b2; obtain ⟨b31, b32⟩ := b3; obtain ⟨b41, b42⟩ := b4; obtain ⟨b51, b52⟩ := b5
      go_enter Try.func55, Try.ntmps55
      go_wp2_with fail
      refine (KA.out _).mono ?_
      rintro r w1 ⟨rfl, b⟩
      rw [VA.out]
      have J1 := Lib.hid (JJ.out.below b)
      obtain ⟨r0, r1, r2, r3⟩ := J1.out.head.two
      obtain ⟨y0, y1, _, _⟩ := J1.out.tail.head.two
      obtain ⟨x0, x1, _, _⟩ := J1.out.tail.tail.head.two
      clear b
      go_wp2_with fail
      refine (KB.out _).mono ?_
      rintro r w2 ⟨rfl, b⟩
      rw [VB.out]
      have J2 := Lib.hid (J1.out.below b)
      obtain ⟨r0, r1, r2, r3⟩ := J2.out.head.two
      obtain ⟨y0, y1, _, _⟩ := J2.out.tail.head.two
      obtain ⟨x0, x1, _, _⟩ := J2.out.tail.tail.head.two
      clear b
      go_wp2_with fail
      refine (KO.out _).mono ?_
      rintro r w3 ⟨rfl, b⟩
      have J3 := Lib.hid (J2.out.below b)
      obtain ⟨r0, r1, r2, r3⟩ := J3.out.head.two
      clear b
      go_wp2
      have Z := J3.out.head.set2 (.int .i64 (ofP (p * q2 + p2 * q) (q * q2))) (.int .i64 (ofQ (p * q2 + p2 * q) (q * q2)))
      obtain ⟨k0, k1, _, _⟩ := Z.two
      refine bodyPost_ret (v := ofV (p * q2 + p2 * q) (q * q2)) ?_ rfl ⟨by rw [HV.out], ?_⟩
      · simp [results, Try.results55, go_sem, k0, k1]
      · exact (J3.out.2.1.setCell (p := ⟨w.heap.size + 1 + 1, 0, none⟩) (by simp; omega) _).setCell (p := ⟨w.heap.size + 1 + 1, 1, none⟩) (by simp; omega) _
    · have VB := Lib.hid (isB_not vb)
      have HV := Lib.hid (doV_out (n := p * q2 + p2 * q) (d := q * q2) (p := p) (q := q) (p2 := p2) (q2 := q2) (fun h => vb h.2))
      clear va vb
      go_enter Try.func55, Try.ntmps55
      go_wp2_with fail
      refine (KA.out _).mono ?_
      rintro r w1 ⟨rfl, b⟩
      rw [VA.out]
      have J1 := Lib.hid (JJ.out.below b)
      obtain ⟨r0, r1, r2, r3⟩ := J1.out.head.two
      obtain ⟨y0, y1, _, _⟩ := J1.out.tail.head.two
      obtain ⟨x0, x1, _, _⟩ := J1.out.tail.tail.head.two
      clear b
      go_wp2_with fail
      refine (KB.out _).mono ?_
      rintro r w2 ⟨rfl, b⟩
      rw [VB.out]
      have J2 := Lib.hid (J1.out.below b)
      obtain ⟨r0, r1, r2, r3⟩ := J2.out.head.two
      obtain ⟨y0, y1, _, _⟩ := J2.out.tail.head.two
      obtain ⟨x0, x1, _, _⟩ := J2.out.tail.tail.head.two
      clear b
      go_wp2
      have Z := J2.out.head.set2 (.int .i64 0) (.int .i64 0)
      obtain ⟨k0, k1, _, _⟩ := Z.two
      refine bodyPost_ret (v := .tuple #[.agg #[.int .i64 0, .int .i64 0], .int .i64 30]) ?_ rfl ⟨by rw [HV.out], ?_⟩
      · simp [results, Try.results55, go_sem, k0, k1]
      · exact (J2.out.2.1.setCell (p := ⟨w.heap.size + 1 + 1, 0, none⟩) (by simp; omega) _).setCell (p := ⟨w.heap.size + 1 + 1, 1, none⟩) (by simp; omega) _
  · have VA := Lib.hid (isB_not va)
    have HV := Lib.hid (doV_out (n := p * q2 + p2 * q) (d := q * q2) (p := p) (q := q) (p2 := p2) (q2 := q2) (fun h => va h.1))
    clear va
    go_enter Try.func55, Try.ntmps55
    go_wp2_with fail
    refine (KA.out _).mono ?_
    rintro r w1 ⟨rfl, b⟩
    rw [VA.out]
    have J1 := Lib.hid (JJ.out.below b)
    obtain ⟨r0, r1, r2, r3⟩ := J1.out.head.two
    obtain ⟨y0, y1, _, _⟩ := J1.out.tail.head.two
    obtain ⟨x0, x1, _, _⟩ := J1.out.tail.tail.head.two
    clear b
    go_wp2
    have Z := J1.out.head.set2 (.int .i64 0) (.int .i64 0)
    obtain ⟨k0, k1, _, _⟩ := Z.two
    refine bodyPost_ret (v := .tuple #[.agg #[.int .i64 0, .int .i64 0], .int .i64 30]) ?_ rfl ⟨by rw [HV.out], ?_⟩
    · simp [results, Try.results55, go_sem, k0, k1]
    · exact (J1.out.2.1.setCell (p := ⟨w.heap.size + 1 + 1, 0, none⟩) (by simp; omega) _).setCell (p := ⟨w.heap.size + 1 + 1, 1, none⟩) (by simp; omega) _

set_option maxHeartbeats 2000000 in
theorem ref3_sub (p q p2 q2 : Int) (hp : I64 p) (hq : I64 q) (hp2 : I64 p2) (hq2 : I64 q2) (w : World) :
    Calls Try.prog 55 #[.int .i64 1, .agg #[.int .i64 p, .int .i64 q], .agg #[.int .i64 p2, .int .i64 q2]] w fun e w' => e = .returned (doV p q p2 q2 (p * q2 - p2 * q) (q * q2)) ∧ Below w.heap.size w w' := by
  have KA := Lib.hid (fun W => ref3_is p q hp hq W)
  have KB := Lib.hid (fun W => ref3_is p2 q2 hp2 hq2 W)
  have JJ := Lib.hid ((((Keeps.start w).alloc #[.int .i64 p, .int .i64 q] 38).alloc #[.int .i64 p2, .int .i64 q2] 38).alloc #[.int .i64 0, .int .i64 0] 38)
  simp only [alloc_size'] at JJ
  by_cases va : Valid p q
  · have VA := Lib.hid (isB_of va)
    by_cases vb : Valid p2 q2
    · have VB := Lib.hid (isB_of vb)
      have hv : Valid p q ∧ Valid p2 q2 := ⟨va, vb⟩
      have b1 := prod_bd hv.1.2.1 (show -1073741824 ≤ q2 ∧ q2 ≤ 1073741824 by have := hv.2.1; omega)
      have b2 := prod_bd hv.2.2.1 (show -1073741824 ≤ q ∧ q ≤ 1073741824 by have := hv.1.1; omega)
      have b3 := prod_bd (show -1073741824 ≤ q ∧ q ≤ 1073741824 by have := hv.1.1; omega) (show -1073741824 ≤ q2 ∧ q2 ≤ 1073741824 by have := hv.2.1; omega)
      have b4 := prod_bd hv.1.2.1 hv.2.2.1
      have b5 := prod_bd (show -1073741824 ≤ q ∧ q ≤ 1073741824 by have := hv.1.1; omega) hv.2.2.1
      have KO := Lib.hid (fun W => ref3_of (p * q2 - p2 * q) (q * q2) (by unfold I64; omega) (by unfold I64; omega) W)
      have HV := Lib.hid (doV_in (n := p * q2 - p2 * q) (d := q * q2) hv)
      clear hv va vb
      obtain ⟨b11, b12⟩ := b1; obtain ⟨b21, b22⟩ := b2; obtain ⟨b31, b32⟩ := b3; obtain ⟨b41, b42⟩ := b4; obtain ⟨b51, b52⟩ := b5
      go_enter Try.func55, Try.ntmps55
      go_wp2_with fail
      refine (KA.out _).mono ?_
      rintro r w1 ⟨rfl, b⟩
      rw [VA.out]
      have J1 := Lib.hid (JJ.out.below b)
      obtain ⟨r0, r1, r2, r3⟩ := J1.out.head.two
      obtain ⟨y0, y1, _, _⟩ := J1.out.tail.head.two
      obtain ⟨x0, x1, _, _⟩ := J1.out.tail.tail.head.two
      clear b
      go_wp2_with fail
      refine (KB.out _).mono ?_
      rintro r w2 ⟨rfl, b⟩
      rw [VB.out]
      have J2 := Lib.hid (J1.out.below b)
      obtain ⟨r0, r1, r2, r3⟩ := J2.out.head.two
      obtain ⟨y0, y1, _, _⟩ := J2.out.tail.head.two
      obtain ⟨x0, x1, _, _⟩ := J2.out.tail.tail.head.two
      clear b
      go_wp2_with fail
      refine (KO.out _).mono ?_
      rintro r w3 ⟨rfl, b⟩
      have J3 := Lib.hid (J2.out.below b)
      obtain ⟨r0, r1, r2, r3⟩ := J3.out.head.two
      clear b
      go_wp2
      have Z := J3.out.head.set2 (.int .i64 (ofP (p * q2 - p2 * q) (q * q2))) (.int .i64 (ofQ (p * q2 - p2 * q) (q * q2)))
      obtain ⟨k0, k1, _, _⟩ := Z.two
      refine bodyPost_ret (v := ofV (p * q2 - p2 * q) (q * q2)) ?_ rfl ⟨by rw [HV.out], ?_⟩
      · simp [results, Try.results55, go_sem, k0, k1]
      · exact (J3.out.2.1.setCell (p := ⟨w.heap.size + 1 + 1, 0, none⟩) (by simp; omega) _).setCell (p := ⟨w.heap.size + 1 + 1, 1, none⟩) (by simp; omega) _
    · have VB := Lib.hid (isB_not vb)
      have HV := Lib.hid (doV_out (n := p * q2 - p2 * q) (d := q * q2) (p := p) (q := q) (p2 := p2) (q2 := q2) (fun h => vb h.2))
      clear va vb
      go_enter Try.func55, Try.ntmps55
      go_wp2_with fail
      refine (KA.out _).mono ?_
      rintro r w1 ⟨rfl, b⟩
      rw [VA.out]
      have J1 := Lib.hid (JJ.out.below b)
      obtain ⟨r0, r1, r2, r3⟩ := J1.out.head.two
      obtain ⟨y0, y1, _, _⟩ := J1.out.tail.head.two
      obtain ⟨x0, x1, _, _⟩ := J1.out.tail.tail.head.two
      clear b
      go_wp2_with fail
      refine (KB.out _).mono ?_
      rintro r w2 ⟨rfl, b⟩
      rw [VB.out]
      have J2 := Lib.hid (J1.out.below b)
      obtain ⟨r0, r1, r2, r3⟩ := J2.out.head.two
      obtain ⟨y0, y1, _, _⟩ := J2.out.tail.head.two
      obtain ⟨x0, x1, _, _⟩ := J2.out.tail.tail.head.two
      clear b
      go_wp2
      have Z := J2.out.head.set2 (.int .i64 0) (.int .i64 0)
      obtain ⟨k0, k1, _, _⟩ := Z.two
      refine bodyPost_ret (v := .tuple #[.agg #[.int .i64 0, .int .i64 0], .int .i64 30]) ?_ rfl ⟨by rw [HV.out], ?_⟩
      · simp [results, Try.results55, go_sem, k0, k1]
      · exact (J2.out.2.1.setCell (p := ⟨w.heap.size + 1 + 1, 0, none⟩) (by simp; omega) _).setCell (p := ⟨w.heap.size + 1 + 1, 1, none⟩) (by simp; omega) _
  · have VA := Lib.hid (isB_not va)
    have HV := Lib.hid (doV_out (n := p * q2 - p2 * q) (d := q * q2) (p := p) (q := q) (p2 := p2) (q2 := q2) (fun h => va h.1))
    clear va
    go_enter Try.func55, Try.ntmps55
    go_wp2_with fail
    refine (KA.out _).mono ?_
    rintro r w1 ⟨rfl, b⟩
    rw [VA.out]
    have J1 := Lib.hid (JJ.out.below b)
    obtain ⟨r0, r1, r2, r3⟩ := J1.out.head.two
    obtain ⟨y0, y1, _, _⟩ := J1.out.tail.head.two
    obtain ⟨x0, x1, _, _⟩ := J1.out.tail.tail.head.two
    clear b
    go_wp2
    have Z := J1.out.head.set2 (.int .i64 0) (.int .i64 0)
    obtain ⟨k0, k1, _, _⟩ := Z.two
    refine bodyPost_ret (v := .tuple #[.agg #[.int .i64 0, .int .i64 0], .int .i64 30]) ?_ rfl ⟨by rw [HV.out], ?_⟩
    · simp [results, Try.results55, go_sem, k0, k1]
    · exact (J1.out.2.1.setCell (p := ⟨w.heap.size + 1 + 1, 0, none⟩) (by simp; omega) _).setCell (p := ⟨w.heap.size + 1 + 1, 1, none⟩) (by simp; omega) _

set_option maxHeartbeats 2000000 in
theorem ref3_mul (p q p2 q2 : Int) (hp : I64 p) (hq : I64 q) (hp2 : I64 p2) (hq2 : I64 q2) (w : World) :
    Calls Try.prog 55 #[.int .i64 2, .agg #[.int .i64 p, .int .i64 q], .agg #[.int .i64 p2, .int .i64 q2]] w fun e w' => e = .returned (doV p q p2 q2 (p * p2) (q * q2)) ∧ Below w.heap.size w w' := by
  have KA := Lib.hid (fun W => ref3_is p q hp hq W)
  have KB := Lib.hid (fun W => ref3_is p2 q2 hp2 hq2 W)
  have JJ := Lib.hid ((((Keeps.start w).alloc #[.int .i64 p, .int .i64 q] 38).alloc #[.int .i64 p2, .int .i64 q2] 38).alloc #[.int .i64 0, .int .i64 0] 38)
  simp only [alloc_size'] at JJ
  by_cases va : Valid p q
  · have VA := Lib.hid (isB_of va)
    by_cases vb : Valid p2 q2
    · have VB := Lib.hid (isB_of vb)
      have hv : Valid p q ∧ Valid p2 q2 := ⟨va, vb⟩
      have b1 := prod_bd hv.1.2.1 (show -1073741824 ≤ q2 ∧ q2 ≤ 1073741824 by have := hv.2.1; omega)
      have b2 := prod_bd hv.2.2.1 (show -1073741824 ≤ q ∧ q ≤ 1073741824 by have := hv.1.1; omega)
      have b3 := prod_bd (show -1073741824 ≤ q ∧ q ≤ 1073741824 by have := hv.1.1; omega) (show -1073741824 ≤ q2 ∧ q2 ≤ 1073741824 by have := hv.2.1; omega)
      have b4 := prod_bd hv.1.2.1 hv.2.2.1
      have b5 := prod_bd (show -1073741824 ≤ q ∧ q ≤ 1073741824 by have := hv.1.1; omega) hv.2.2.1
      have KO := Lib.hid (fun W => ref3_of (p * p2) (q * q2) (by unfold I64; omega) (by unfold I64; omega) W)
      have HV := Lib.hid (doV_in (n := p * p2) (d := q * q2) hv)
      clear hv va vb
      obtain ⟨b11, b12⟩ := b1; obtain ⟨b21, b22⟩ := b2; obtain ⟨b31, b32⟩ := b3; obtain ⟨b41, b42⟩ := b4; obtain ⟨b51, b52⟩ := b5
      go_enter Try.func55, Try.ntmps55
      go_wp2_with fail
      refine (KA.out _).mono ?_
      rintro r w1 ⟨rfl, b⟩
      rw [VA.out]
      have J1 := Lib.hid (JJ.out.below b)
      obtain ⟨r0, r1, r2, r3⟩ := J1.out.head.two
      obtain ⟨y0, y1, _, _⟩ := J1.out.tail.head.two
      obtain ⟨x0, x1, _, _⟩ := J1.out.tail.tail.head.two
      clear b
      go_wp2_with fail
      refine (KB.out _).mono ?_
      rintro r w2 ⟨rfl, b⟩
      rw [VB.out]
      have J2 := Lib.hid (J1.out.below b)
      obtain ⟨r0, r1, r2, r3⟩ := J2.out.head.two
      obtain ⟨y0, y1, _, _⟩ := J2.out.tail.head.two
      obtain ⟨x0, x1, _, _⟩ := J2.out.tail.tail.head.two
      clear b
      go_wp2_with fail
      refine (KO.out _).mono ?_
      rintro r w3 ⟨rfl, b⟩
      have J3 := Lib.hid (J2.out.below b)
      obtain ⟨r0, r1, r2, r3⟩ := J3.out.head.two
      clear b
      go_wp2
      have Z := J3.out.head.set2 (.int .i64 (ofP (p * p2) (q * q2))) (.int .i64 (ofQ (p * p2) (q * q2)))
      obtain ⟨k0, k1, _, _⟩ := Z.two
      refine bodyPost_ret (v := ofV (p * p2) (q * q2)) ?_ rfl ⟨by rw [HV.out], ?_⟩
      · simp [results, Try.results55, go_sem, k0, k1]
      · exact (J3.out.2.1.setCell (p := ⟨w.heap.size + 1 + 1, 0, none⟩) (by simp; omega) _).setCell (p := ⟨w.heap.size + 1 + 1, 1, none⟩) (by simp; omega) _
    · have VB := Lib.hid (isB_not vb)
      have HV := Lib.hid (doV_out (n := p * p2) (d := q * q2) (p := p) (q := q) (p2 := p2) (q2 := q2) (fun h => vb h.2))
      clear va vb
      go_enter Try.func55, Try.ntmps55
      go_wp2_with fail
      refine (KA.out _).mono ?_
      rintro r w1 ⟨rfl, b⟩
      rw [VA.out]
      have J1 := Lib.hid (JJ.out.below b)
      obtain ⟨r0, r1, r2, r3⟩ := J1.out.head.two
      obtain ⟨y0, y1, _, _⟩ := J1.out.tail.head.two
      obtain ⟨x0, x1, _, _⟩ := J1.out.tail.tail.head.two
      clear b
      go_wp2_with fail
      refine (KB.out _).mono ?_
      rintro r w2 ⟨rfl, b⟩
      rw [VB.out]
      have J2 := Lib.hid (J1.out.below b)
      obtain ⟨r0, r1, r2, r3⟩ := J2.out.head.two
      obtain ⟨y0, y1, _, _⟩ := J2.out.tail.head.two
      obtain ⟨x0, x1, _, _⟩ := J2.out.tail.tail.head.two
      clear b
      go_wp2
      have Z := J2.out.head.set2 (.int .i64 0) (.int .i64 0)
      obtain ⟨k0, k1, _, _⟩ := Z.two
      refine bodyPost_ret (v := .tuple #[.agg #[.int .i64 0, .int .i64 0], .int .i64 30]) ?_ rfl ⟨by rw [HV.out], ?_⟩
      · simp [results, Try.results55, go_sem, k0, k1]
      · exact (J2.out.2.1.setCell (p := ⟨w.heap.size + 1 + 1, 0, none⟩) (by simp; omega) _).setCell (p := ⟨w.heap.size + 1 + 1, 1, none⟩) (by simp; omega) _
  · have VA := Lib.hid (isB_not va)
    have HV := Lib.hid (doV_out (n := p * p2) (d := q * q2) (p := p) (q := q) (p2 := p2) (q2 := q2) (fun h => va h.1))
    clear va
    go_enter Try.func55, Try.ntmps55
    go_wp2_with fail
    refine (KA.out _).mono ?_
    rintro r w1 ⟨rfl, b⟩
    rw [VA.out]
    have J1 := Lib.hid (JJ.out.below b)
    obtain ⟨r0, r1, r2, r3⟩ := J1.out.head.two
    obtain ⟨y0, y1, _, _⟩ := J1.out.tail.head.two
    obtain ⟨x0, x1, _, _⟩ := J1.out.tail.tail.head.two
    clear b
    go_wp2
    have Z := J1.out.head.set2 (.int .i64 0) (.int .i64 0)
    obtain ⟨k0, k1, _, _⟩ := Z.two
    refine bodyPost_ret (v := .tuple #[.agg #[.int .i64 0, .int .i64 0], .int .i64 30]) ?_ rfl ⟨by rw [HV.out], ?_⟩
    · simp [results, Try.results55, go_sem, k0, k1]
    · exact (J1.out.2.1.setCell (p := ⟨w.heap.size + 1 + 1, 0, none⟩) (by simp; omega) _).setCell (p := ⟨w.heap.size + 1 + 1, 1, none⟩) (by simp; omega) _

set_option maxHeartbeats 2000000 in
theorem ref3_div (p q p2 q2 : Int) (hp : I64 p) (hq : I64 q) (hp2 : I64 p2) (hq2 : I64 q2) (w : World) :
    Calls Try.prog 55 #[.int .i64 3, .agg #[.int .i64 p, .int .i64 q], .agg #[.int .i64 p2, .int .i64 q2]] w fun e w' => e = .returned (doV p q p2 q2 (p * q2) (q * p2)) ∧ Below w.heap.size w w' := by
  have KA := Lib.hid (fun W => ref3_is p q hp hq W)
  have KB := Lib.hid (fun W => ref3_is p2 q2 hp2 hq2 W)
  have JJ := Lib.hid ((((Keeps.start w).alloc #[.int .i64 p, .int .i64 q] 38).alloc #[.int .i64 p2, .int .i64 q2] 38).alloc #[.int .i64 0, .int .i64 0] 38)
  simp only [alloc_size'] at JJ
  by_cases va : Valid p q
  · have VA := Lib.hid (isB_of va)
    by_cases vb : Valid p2 q2
    · have VB := Lib.hid (isB_of vb)
      have hv : Valid p q ∧ Valid p2 q2 := ⟨va, vb⟩
      have b1 := prod_bd hv.1.2.1 (show -1073741824 ≤ q2 ∧ q2 ≤ 1073741824 by have := hv.2.1; omega)
      have b2 := prod_bd hv.2.2.1 (show -1073741824 ≤ q ∧ q ≤ 1073741824 by have := hv.1.1; omega)
      have b3 := prod_bd (show -1073741824 ≤ q ∧ q ≤ 1073741824 by have := hv.1.1; omega) (show -1073741824 ≤ q2 ∧ q2 ≤ 1073741824 by have := hv.2.1; omega)
      have b4 := prod_bd hv.1.2.1 hv.2.2.1
      have b5 := prod_bd (show -1073741824 ≤ q ∧ q ≤ 1073741824 by have := hv.1.1; omega) hv.2.2.1
      have KO := Lib.hid (fun W => ref3_of (p * q2) (q * p2) (by unfold I64; omega) (by unfold I64; omega) W)
      have HV := Lib.hid (doV_in (n := p * q2) (d := q * p2) hv)
      clear hv va vb
      obtain ⟨b11, b12⟩ := b1; obtain ⟨b21, b22⟩ := b2; obtain ⟨b31, b32⟩ := b3; obtain ⟨b41, b42⟩ := b4; obtain ⟨b51, b52⟩ := b5
      go_enter Try.func55, Try.ntmps55
      go_wp2_with fail
      refine (KA.out _).mono ?_
      rintro r w1 ⟨rfl, b⟩
      rw [VA.out]
      have J1 := Lib.hid (JJ.out.below b)
      obtain ⟨r0, r1, r2, r3⟩ := J1.out.head.two
      obtain ⟨y0, y1, _, _⟩ := J1.out.tail.head.two
      obtain ⟨x0, x1, _, _⟩ := J1.out.tail.tail.head.two
      clear b
      go_wp2_with fail
      refine (KB.out _).mono ?_
      rintro r w2 ⟨rfl, b⟩
      rw [VB.out]
      have J2 := Lib.hid (J1.out.below b)
      obtain ⟨r0, r1, r2, r3⟩ := J2.out.head.two
      obtain ⟨y0, y1, _, _⟩ := J2.out.tail.head.two
      obtain ⟨x0, x1, _, _⟩ := J2.out.tail.tail.head.two
      clear b
      go_wp2_with fail
      refine (KO.out _).mono ?_
      rintro r w3 ⟨rfl, b⟩
      have J3 := Lib.hid (J2.out.below b)
      obtain ⟨r0, r1, r2, r3⟩ := J3.out.head.two
      clear b
      go_wp2
      have Z := J3.out.head.set2 (.int .i64 (ofP (p * q2) (q * p2))) (.int .i64 (ofQ (p * q2) (q * p2)))
      obtain ⟨k0, k1, _, _⟩ := Z.two
      refine bodyPost_ret (v := ofV (p * q2) (q * p2)) ?_ rfl ⟨by rw [HV.out], ?_⟩
      · simp [results, Try.results55, go_sem, k0, k1]
      · exact (J3.out.2.1.setCell (p := ⟨w.heap.size + 1 + 1, 0, none⟩) (by simp; omega) _).setCell (p := ⟨w.heap.size + 1 + 1, 1, none⟩) (by simp; omega) _
    · have VB := Lib.hid (isB_not vb)
      have HV := Lib.hid (doV_out (n := p * q2) (d := q * p2) (p := p) (q := q) (p2 := p2) (q2 := q2) (fun h => vb h.2))
      clear va vb
      go_enter Try.func55, Try.ntmps55
      go_wp2_with fail
      refine (KA.out _).mono ?_
      rintro r w1 ⟨rfl, b⟩
      rw [VA.out]
      have J1 := Lib.hid (JJ.out.below b)
      obtain ⟨r0, r1, r2, r3⟩ := J1.out.head.two
      obtain ⟨y0, y1, _, _⟩ := J1.out.tail.head.two
      obtain ⟨x0, x1, _, _⟩ := J1.out.tail.tail.head.two
      clear b
      go_wp2_with fail
      refine (KB.out _).mono ?_
      rintro r w2 ⟨rfl, b⟩
      rw [VB.out]
      have J2 := Lib.hid (J1.out.below b)
      obtain ⟨r0, r1, r2, r3⟩ := J2.out.head.two
      obtain ⟨y0, y1, _, _⟩ := J2.out.tail.head.two
      obtain ⟨x0, x1, _, _⟩ := J2.out.tail.tail.head.two
      clear b
      go_wp2
      have Z := J2.out.head.set2 (.int .i64 0) (.int .i64 0)
      obtain ⟨k0, k1, _, _⟩ := Z.two
      refine bodyPost_ret (v := .tuple #[.agg #[.int .i64 0, .int .i64 0], .int .i64 30]) ?_ rfl ⟨by rw [HV.out], ?_⟩
      · simp [results, Try.results55, go_sem, k0, k1]
      · exact (J2.out.2.1.setCell (p := ⟨w.heap.size + 1 + 1, 0, none⟩) (by simp; omega) _).setCell (p := ⟨w.heap.size + 1 + 1, 1, none⟩) (by simp; omega) _
  · have VA := Lib.hid (isB_not va)
    have HV := Lib.hid (doV_out (n := p * q2) (d := q * p2) (p := p) (q := q) (p2 := p2) (q2 := q2) (fun h => va h.1))
    clear va
    go_enter Try.func55, Try.ntmps55
    go_wp2_with fail
    refine (KA.out _).mono ?_
    rintro r w1 ⟨rfl, b⟩
    rw [VA.out]
    have J1 := Lib.hid (JJ.out.below b)
    obtain ⟨r0, r1, r2, r3⟩ := J1.out.head.two
    obtain ⟨y0, y1, _, _⟩ := J1.out.tail.head.two
    obtain ⟨x0, x1, _, _⟩ := J1.out.tail.tail.head.two
    clear b
    go_wp2
    have Z := J1.out.head.set2 (.int .i64 0) (.int .i64 0)
    obtain ⟨k0, k1, _, _⟩ := Z.two
    refine bodyPost_ret (v := .tuple #[.agg #[.int .i64 0, .int .i64 0], .int .i64 30]) ?_ rfl ⟨by rw [HV.out], ?_⟩
    · simp [results, Try.results55, go_sem, k0, k1]
    · exact (J1.out.2.1.setCell (p := ⟨w.heap.size + 1 + 1, 0, none⟩) (by simp; omega) _).setCell (p := ⟨w.heap.size + 1 + 1, 1, none⟩) (by simp; omega) _
end Go.Proofs.Ytihfhdnldpjjdaa
