/- Layer 19 (quant): how many are over a line, by the reference; Share of both. -/
import Derived.Test.YtaeodkpkgbjaeaaQuaB
import Derived.Test.YtaeodkpkgbjaeaaVecT
namespace Go.Proofs.Ytaeodkpkgbjaeaa
open Go.RowKit
set_option linter.unusedVariables false
set_option linter.unusedSimpArgs false

theorem cnK_all {l : List PQ} (h : allS l = true) : ∀ k, k < l.length → ScoOk (l.getD k pq0).1 (l.getD k pq0).2 := fun k hk => by
  have := all_okP h (l.getD k pq0) (by rw [List.getD_eq_getElem?_getD, List.getElem?_eq_getElem hk]; exact List.getElem_mem _)
  exact this
/-- which part of all is over the line -/
def shP (l : List PQ) (c d : Int) : Int := if cnOk l c d then ofP (cntO l (c, d) : Nat) (l.length : Nat) else 0
def shQ (l : List PQ) (c d : Int) : Int := if cnOk l c d then ofQ (cntO l (c, d) : Nat) (l.length : Nat) else 0
def shE (l : List PQ) (c d : Int) : Int := if cnOk l c d then ofE (cntO l (c, d) : Nat) (l.length : Nat) else 130
abbrev shV (l : List PQ) (c d : Int) : Value := .tuple #[.agg #[.int .i64 (shP l c d), .int .i64 (shQ l c d)], .int .i64 (shE l c d)]
theorem sh_ok {l : List PQ} {c d : Int} (h : cnOk l c d) : ofV (cntO l (c, d) : Nat) (l.length : Nat) = shV l c d ∧ cnN l c d = (cntO l (c, d) : Nat) ∧ cnE l c d = 0 := by
  unfold shV shP shQ shE cnN cnE
  rw [if_pos h, if_pos h, if_pos h, if_pos h, if_pos h]
  exact ⟨rfl, rfl, rfl⟩
theorem sh_no {l : List PQ} {c d : Int} (h : ¬ cnOk l c d) : Value.tuple #[.agg #[.int .i64 0, .int .i64 0], .int .i64 130] = shV l c d ∧ cnN l c d = 0 ∧ cnE l c d = 130 := by
  unfold shV shP shQ shE cnN cnE
  rw [if_neg h, if_neg h, if_neg h, if_neg h, if_neg h]
  exact ⟨rfl, rfl, rfl⟩
set_option maxRecDepth 100000 in
set_option maxHeartbeats 4000000 in
theorem qua_share (A : Option Addr) (l : List PQ) (ca : Nat) (c d : Int) (w : World) (hA : LiesS w w.heap.size A l) (hI : okS l) (hl : l.length ≤ 100000) (hc : I64 c) (hd : I64 d) :
    Calls Try.prog 95 #[.slice A l.length ca, .agg #[.int .i64 c, .int .i64 d]] w fun e w' => e = .returned (shV l c d) ∧ Below w.heap.size w w' := by
  have J0 := Lib.hid (((Keeps.start w).alloc #[.int .i64 c, .int .i64 d] 24).alloc #[.int .i64 0, .int .i64 0] 141)
  obtain ⟨x0, x1, _, _⟩ := J0.out.tail.head.two
  have K := Lib.hid (qua_count A l ca c d ((w.alloc (.cells #[.int .i64 c, .int .i64 d] 24)).alloc (.cells #[.int .i64 0, .int .i64 0] 141)) ((hA.below J0.out.2.1).mono J0.out.2.1.size) hI hl hc hd)
  have hcl : I64 (cntO l (c, d) : Nat) ∧ I64 (l.length : Nat) := by
    have := cntO_le l (c, d)
    unfold I64; omega
  have KO := Lib.hid (fun W => rat_of (cntO l (c, d) : Nat) (l.length : Nat) hcl.1 hcl.2 W)
  unfold cnV at K
  by_cases h : cnOk l c d
  · obtain ⟨e1, e2, e3⟩ := sh_ok h
    rw [e2, e3] at K
    rw [e1] at KO
    unfold shV at KO ⊢
    clear hA hI e1 e2 e3 h hcl
    generalize shP l c d = p at *
    generalize shQ l c d = q at *
    generalize shE l c d = e0 at *
    generalize cntO l (c, d) = m at *
    generalize l.length = N at *
    go_enter Try.func95, Try.ntmps95
    go_wp2_with fail
    refine (K.out).mono ?_
    rintro e w1 ⟨rfl, b1⟩
    have J1 := Lib.hid (J0.out.below b1)
    clear b1 x0 x1
    go_wp2_with fail
    refine (KO.out _).mono ?_
    rintro e w2 ⟨rfl, b2⟩
    have J2 := Lib.hid (J1.out.below b2)
    obtain ⟨r0, r1, r2, r3⟩ := J2.out.head.two
    rw [alloc_size'] at r0 r1 r2 r3
    have Z := J2.out.head.set2 (.int .i64 p) (.int .i64 q)
    rw [alloc_size'] at Z
    obtain ⟨k0, k1, _, _⟩ := Z.two
    clear b2
    go_wp2
    refine bodyPost_ret (v := .tuple #[.agg #[.int .i64 p, .int .i64 q], .int .i64 e0]) ?_ rfl ⟨rfl, (J2.out.2.1.setCell (p := ⟨w.heap.size + 1, 0, none⟩) (by show w.heap.size ≤ w.heap.size + 1; omega) _).setCell (p := ⟨w.heap.size + 1, 1, none⟩) (by show w.heap.size ≤ w.heap.size + 1; omega) _⟩
    simp [results, Try.results95, go_sem, k0, k1]
  · obtain ⟨e1, e2, e3⟩ := sh_no h
    rw [e2, e3] at K
    rw [← e1]
    clear hA hI e1 e2 e3 h hcl KO
    generalize l.length = N at *
    go_enter Try.func95, Try.ntmps95
    go_wp2_with fail
    refine (K.out).mono ?_
    rintro e w1 ⟨rfl, b1⟩
    have J1 := Lib.hid (J0.out.below b1)
    obtain ⟨r0, r1, r2, r3⟩ := J1.out.head.two
    rw [alloc_size'] at r0 r1 r2 r3
    have Z := J1.out.head.set2 (.int .i64 0) (.int .i64 0)
    rw [alloc_size'] at Z
    obtain ⟨k0, k1, _, _⟩ := Z.two
    clear b1 x0 x1
    go_wp2
    refine bodyPost_ret (v := .tuple #[.agg #[.int .i64 0, .int .i64 0], .int .i64 130]) ?_ rfl ⟨rfl, (J1.out.2.1.setCell (p := ⟨w.heap.size + 1, 0, none⟩) (by show w.heap.size ≤ w.heap.size + 1; omega) _).setCell (p := ⟨w.heap.size + 1, 1, none⟩) (by show w.heap.size ≤ w.heap.size + 1; omega) _⟩
    simp [results, Try.results95, go_sem, k0, k1]
end Go.Proofs.Ytaeodkpkgbjaeaa
