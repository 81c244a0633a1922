/- Contracts of package ratio: Is, check. -/
import Derived.Test.YtbnpbflndnjmcaaDoorRatO
import Derived.Test.YtbnpbflndnjmcaaDoorBigC
namespace Go.Proofs.YtbnpbflndnjmcaaDoor
open Go.RowKit

theorem ret_b {a b : Bool} (h : a = b) : Ending.returned (.bool a) = .returned (.bool b) := by rw [h]
def Valid (p q : Int) : Prop := (1 ≤ q ∧ q ≤ 1073741824) ∧ (-1073741824 ≤ p ∧ p ≤ 1073741824) ∧ Int.gcd p q = 1
instance (p q : Int) : Decidable (Valid p q) := by unfold Valid; infer_instance
def isB (p q : Int) : Bool := decide (Valid p q)
theorem isB_true {p q : Int} (h : isB p q = true) : Valid p q := of_decide_eq_true h
theorem isB_of {p q : Int} (h : Valid p q) : isB p q = true := decide_eq_true h
theorem isB_false {p q : Int} (h : isB p q = false) : ¬ Valid p q := of_decide_eq_false h
theorem dv_valid {p q : Int} (h : Valid p q) : dv p q = 1 := by
  unfold dv
  rw [if_neg (by have := h.1; omega), h.2.2]; rfl
theorem of_valid {p q : Int} (h : Valid p q) : ofV p q = .tuple #[.agg #[.int .i64 p, .int .i64 q], .int .i64 0] := by
  have e1 : rX p q = p := by unfold rX; rw [dv_valid h, Int.ediv_one]
  have e2 : rY p q = q := by unfold rY; rw [dv_valid h, Int.ediv_one]
  have h1 := h.1
  have := ofV_in (p := p) (q := q) (by omega) (by rw [e1, e2]; exact ⟨h.2.1, by unfold Part; omega⟩)
  rw [e1, e2] at this
  exact (Ending.returned.inj this).symm
theorem valid_of {p q : Int} (h : ofE p q = 0 ∧ ofP p q = p ∧ ofQ p q = q) : Valid p q := by
  obtain ⟨h1, h2, h3⟩ := h
  by_cases h0 : q = 0
  · unfold ofE at h1; rw [if_pos h0] at h1; omega
  by_cases hf : Part (rX p q) ∧ Part (rY p q)
  · unfold ofP at h2; unfold ofQ at h3
    rw [if_neg h0, if_pos hf] at h2 h3
    have hy := rY_pos (p := p) h0
    have hm := rY_mul p q
    have hd : dv p q = 1 := by
      have : rY p q * dv p q = rY p q * 1 := by rw [hm, Int.mul_one, h3]
      exact Int.eq_of_mul_eq_mul_left (by omega) this
    rw [h2, h3] at hf
    unfold Part at hf
    rw [h3] at hy
    refine ⟨by omega, by omega, ?_⟩
    unfold dv at hd
    rw [if_neg (by omega)] at hd
    omega
  · unfold ofE at h1; rw [if_neg h0, if_neg hf] at h1; omega
theorem valid_bd {p q : Int} (h : Valid p q) : I64 p ∧ I64 q := by
  have h1 := h.1; have h2 := h.2.1
  unfold I64; omega

set_option maxHeartbeats 1000000 in
theorem rat_is (p q : Int) (hp : I64 p) (hq : I64 q) (w : World) : Calls Tryd.prog 12 #[.agg #[.int .i64 p, .int .i64 q]] w fun e w' => e = .returned (.bool (isB p q)) ∧ Below w.heap.size w w' := by
  have J0 := Lib.hid ((Keeps.start w).alloc #[.int .i64 p, .int .i64 q] 23)
  by_cases hv : Valid p q
  · have KO : Hid (∀ W, Calls Tryd.prog 9 #[.int .i64 p, .int .i64 q] W fun e w' => e = .returned (.tuple #[.agg #[.int .i64 p, .int .i64 q], .int .i64 0]) ∧ Below W.heap.size W w') := by
      intro W
      have := rat_of p q hp hq W
      rw [of_valid hv] at this
      exact this
    have HR := Lib.hid (isB_of hv)
    clear hv
    have q1 : (p == p) = true := by simp
    have q2 : (q == q) = true := by simp
    go_enter Tryd.func12, Tryd.ntmps12
    go_wp2_with fail
    refine (KO.out _).mono ?_
    rintro e w1 ⟨rfl, b1⟩
    have J1 := Lib.hid ((J0.out.below b1).alloc #[.int .i64 p, .int .i64 q] 23)
    obtain ⟨x0, x1, _, _⟩ := J1.out.tail.head.two
    clear b1
    go_wp2
    go_ret
    exact ⟨ret_b HR.out.symm, J1.out.2.1⟩
  · have KO : Hid (∀ W, Calls Tryd.prog 9 #[.int .i64 p, .int .i64 q] W fun e w' => e = .returned (.tuple #[.agg #[.int .i64 (ofP p q), .int .i64 (ofQ p q)], .int .i64 (ofE p q)]) ∧ Below W.heap.size W w') := fun W => rat_of p q hp hq W
    have HR : Hid (isB p q = false) := decide_eq_false hv
    have hne : (ofE p q == 0) = false ∨ ((ofE p q == 0) = true ∧ (ofP p q == p) = false) ∨ ((ofE p q == 0) = true ∧ (ofP p q == p) = true ∧ (ofQ p q == q) = false) := by
      by_cases h1 : ofE p q = 0
      · by_cases h2 : ofP p q = p
        · have h3 : ofQ p q ≠ q := fun h3 => hv (valid_of ⟨h1, h2, h3⟩)
          exact .inr (.inr ⟨by simpa using h1, by simpa using h2, by simpa using h3⟩)
        · exact .inr (.inl ⟨by simpa using h1, by simpa using h2⟩)
      · exact .inl (by simpa using h1)
    clear hv
    generalize ofE p q = c at *
    generalize ofP p q = a at *
    generalize ofQ p q = b at *
    rcases hne with h1 | ⟨h1, h2⟩ | ⟨h1, h2, h3⟩
    all_goals
      go_enter Tryd.func12, Tryd.ntmps12
      go_wp2_with fail
      refine (KO.out _).mono ?_
      rintro e w1 ⟨rfl, b1⟩
      have J1 := Lib.hid ((J0.out.below b1).alloc #[.int .i64 a, .int .i64 b] 23)
      obtain ⟨x0, x1, _, _⟩ := J1.out.tail.head.two
      clear b1
      go_wp2
      go_ret
      exact ⟨ret_b HR.out.symm, J1.out.2.1⟩
theorem Box.four {w : World} {g : Nat} {a b c d : Value} {t : TypeId} (h : Box w g #[a, b, c, d] t) :
    w.cell? ⟨g, 0, none⟩ = some a ∧ w.cell? ⟨g, 1, none⟩ = some b ∧ w.cell? ⟨g, 2, none⟩ = some c ∧ w.cell? ⟨g, 3, none⟩ = some d :=
  ⟨h.cell 0, h.cell 1, h.cell 2, h.cell 3⟩
def chk1 (p q : Int) : Int := if isB p q then 0 else 30
def chk2 (p q p2 q2 : Int) : Int := if isB p q && isB p2 q2 then 0 else 30

set_option maxHeartbeats 1000000 in
theorem rat_check1 (p q : Int) (hp : I64 p) (hq : I64 q) (g : Nat) (t : TypeId) (w : World) (hx : Box w g #[.int .i64 p, .int .i64 q] t) :
    Calls Tryd.prog 43 #[.slice (some ⟨g, 0, none⟩) 1 1] w fun e w' => e = .returned (.int .i64 (chk1 p q)) ∧ Below w.heap.size w w' := by
  have KI := Lib.hid (fun W => rat_is p q hp hq W)
  have HC : Hid (chk1 p q = if isB p q then 0 else 30) := rfl
  generalize chk1 p q = c at *
  generalize isB p q = b at *
  have J0 : Hid (Keeps w.heap.size w [(g, #[.int .i64 p, .int .i64 q], t)] w) := ⟨fun x h => by rw [List.mem_singleton.1 h]; exact hx, Below.refl _ _, Nat.le_refl _⟩
  obtain ⟨x0, x1, _, _⟩ := hx.two
  clear hx
  cases b
  · go_enter Tryd.func43, Tryd.ntmps43
    go_wp2
    refine wp_loop_rounds 2 ?_
    rw [rounds_succ]
    go_wp2_with fail
    refine (KI.out _).mono ?_
    rintro e w1 ⟨rfl, b1⟩
    have J1 := Lib.hid ((J0.out.alloc #[.int .i64 p, .int .i64 q] 23).below b1)
    go_wp2
    go_ret
    exact ⟨ret1i HC.out.symm, J1.out.2.1⟩
  · go_enter Tryd.func43, Tryd.ntmps43
    go_wp2
    refine wp_loop_rounds 2 ?_
    rw [rounds_succ]
    go_wp2_with fail
    refine (KI.out _).mono ?_
    rintro e w1 ⟨rfl, b1⟩
    have J1 := Lib.hid ((J0.out.alloc #[.int .i64 p, .int .i64 q] 23).below b1)
    go_wp2
    rw [rounds_succ]
    go_wp2
    go_ret
    exact ⟨ret1i HC.out.symm, J1.out.2.1⟩
set_option maxHeartbeats 1000000 in
theorem rat_check2 (p q p2 q2 : Int) (hp : I64 p) (hq : I64 q) (hp2 : I64 p2) (hq2 : I64 q2) (g : Nat) (t : TypeId) (w : World) (hx : Box w g #[.int .i64 p, .int .i64 q, .int .i64 p2, .int .i64 q2] t) :
    Calls Tryd.prog 43 #[.slice (some ⟨g, 0, none⟩) 2 2] w fun e w' => e = .returned (.int .i64 (chk2 p q p2 q2)) ∧ Below w.heap.size w w' := by
  have KI := Lib.hid (fun W => rat_is p q hp hq W)
  have KI2 := Lib.hid (fun W => rat_is p2 q2 hp2 hq2 W)
  have HC : Hid (chk2 p q p2 q2 = if isB p q && isB p2 q2 then 0 else 30) := rfl
  generalize chk2 p q p2 q2 = c at *
  generalize isB p q = b at *
  generalize isB p2 q2 = b2 at *
  have J0 : Hid (Keeps w.heap.size w [(g, #[.int .i64 p, .int .i64 q, .int .i64 p2, .int .i64 q2], t)] w) := ⟨fun x h => by rw [List.mem_singleton.1 h]; exact hx, Below.refl _ _, Nat.le_refl _⟩
  obtain ⟨x0, x1, x2, x3⟩ := hx.four
  clear hx
  cases b
  · go_enter Tryd.func43, Tryd.ntmps43
    go_wp2
    refine wp_loop_rounds 3 ?_
    rw [rounds_succ]
    go_wp2_with fail
    refine (KI.out _).mono ?_
    rintro e w1 ⟨rfl, b1⟩
    have J1 := Lib.hid ((J0.out.alloc #[.int .i64 p, .int .i64 q] 23).below b1)
    go_wp2
    go_ret
    exact ⟨ret1i HC.out.symm, J1.out.2.1⟩
  · cases b2
    all_goals
      go_enter Tryd.func43, Tryd.ntmps43
      go_wp2
      refine wp_loop_rounds 3 ?_
      rw [rounds_succ]
      go_wp2_with fail
      refine (KI.out _).mono ?_
      rintro e w1 ⟨rfl, b1⟩
      have J1 := Lib.hid ((J0.out.alloc #[.int .i64 p, .int .i64 q] 23).below b1)
      obtain ⟨x0, x1, x2, x3⟩ := J1.out.tail.head.four
      clear b1
      go_wp2
      rw [rounds_succ]
      go_wp2_with fail
      refine (KI2.out _).mono ?_
      rintro e w2 ⟨rfl, b2⟩
      have J2 := Lib.hid ((J1.out.alloc #[.int .i64 p2, .int .i64 q2] 23).below b2)
      clear b2
      go_wp2
    · go_ret
      exact ⟨ret1i HC.out.symm, J2.out.2.1⟩
    · rw [rounds_succ]
      go_wp2
      go_ret
      exact ⟨ret1i HC.out.symm, J2.out.2.1⟩
theorem chk1_cases (p q : Int) : (Valid p q ∧ chk1 p q = 0) ∨ (¬ Valid p q ∧ chk1 p q = 30) := by
  unfold chk1
  cases h : isB p q with
  | true => exact .inl ⟨isB_true h, rfl⟩
  | false => exact .inr ⟨isB_false h, rfl⟩
theorem chk2_cases (p q p2 q2 : Int) : ((Valid p q ∧ Valid p2 q2) ∧ chk2 p q p2 q2 = 0) ∨ (¬ (Valid p q ∧ Valid p2 q2) ∧ chk2 p q p2 q2 = 30) := by
  unfold chk2
  cases h : isB p q with
  | true =>
    cases h2 : isB p2 q2 with
    | true => exact .inl ⟨⟨isB_true h, isB_true h2⟩, rfl⟩
    | false => exact .inr ⟨fun hc => isB_false h2 hc.2, rfl⟩
  | false => exact .inr ⟨fun hc => isB_false h hc.1, rfl⟩
end Go.Proofs.YtbnpbflndnjmcaaDoor
