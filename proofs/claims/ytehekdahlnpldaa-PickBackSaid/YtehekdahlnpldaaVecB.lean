import Derived.Test.YtehekdahlnpldaaVecA

/-! Package vec: Is, Parts, check, dot, Dot, gap, Gap, compared, Order, In. -/
namespace Go.Proofs.Ytehekdahlnpldaa
open Go.RowKit
set_option linter.unusedVariables false
set_option linter.unusedSimpArgs false

theorem dre2' (w : World) (a b : Nat) : ∃ n, (w.drewN a).drewN b = w.drewN n := ⟨_, World.drewN_drewN _ _ _⟩
theorem ret_bool {a b : Bool} (h : a = b) : Ending.returned (.bool a) = .returned (.bool b) := by rw [h]
set_option maxHeartbeats 1000000 in
theorem vec_is (A : Option Addr) (l : List Int) (c B : Nat) (d : Int) (w : World) (hA : Lies w B A l) (hl : (l.length : Int) ≤ 9223372036854775807) (hc : l.length ≤ c) :
    Calls Try.prog 80 #[.slice A l.length c, .int .i64 d] w fun e w' => e = .returned (.bool (isV l d)) ∧ ∃ n, w' = w.drewN n := by
  have K := Lib.hid (vec_ends A l c B d w hA hl hc)
  have HR := Lib.hid (isV_ends l d)
  generalize isV l d = R at *
  generalize endsL l d = L at *
  generalize endsH l d = H at *
  generalize endsK l d = b at *
  clear hA hc hl
  generalize l.length = N at *
  by_cases h1 : -2147483648 ≤ L <;> by_cases h2 : H ≤ 2147483647 <;> cases b
  all_goals
    go_enter Try.func80, Try.ntmps80
    go_wp2_with fail
    refine K.out.mono ?_
    rintro e w1 ⟨rfl, n, rfl⟩
    go_wp2
    go_ret
    exact ⟨ret_bool (by rw [HR.out]; simp [h1, h2]), n, rfl⟩
set_option maxHeartbeats 2000000 in
theorem vec_parts (A : Option Addr) (l : List Int) (c B : Nat) (d : Int) (w : World) (hA : Lies w B A l) (hl : (l.length : Int) ≤ 9223372036854775807) (hc : l.length ≤ c) :
    Calls Try.prog 130 #[.slice A l.length c, .int .i64 d] w fun e w' => e = .returned (.bool (partsV l d)) ∧ ∃ n, w' = w.drewN n := by
  have K := Lib.hid (vec_ends A l c B d w hA hl hc)
  have HR := Lib.hid (partsV_ends l d)
  generalize partsV l d = R at *
  generalize endsL l d = L at *
  generalize endsH l d = H at *
  generalize endsK l d = b at *
  clear hA hc hl
  generalize l.length = N at *
  by_cases h1 : -4 ≤ L <;> by_cases h2 : H ≤ 4 <;> by_cases h3 : L < 0 <;> by_cases h4 : 0 < H <;> cases b
  all_goals try (exfalso; omega)
  all_goals
    go_enter Try.func130, Try.ntmps130
    go_wp2_with fail
    refine K.out.mono ?_
    rintro e w1 ⟨rfl, n, rfl⟩
    go_wp2
    go_ret
    exact ⟨ret_bool (by rw [HR.out]; simp [h1, h2, h3, h4]), n, rfl⟩
theorem vec_compared (a b : Int) (w : World) :
    Calls Try.prog 132 #[.int .i64 a, .int .i64 b] w fun e w' => e = .returned (.int .i64 (if a < b then -1 else if b < a then 1 else 0)) ∧ w = w' := by
  go_enter Try.func132, Try.ntmps132
  go_wp2
  all_goals
    go_ret
    refine ⟨ret1i ?_, rfl⟩
    first | omega | (split <;> first | omega | (split <;> omega))

/-- all of a list of rows are vectors -/
def allV (R : List Row) (d : Int) : Bool := R.all fun r => isV r.l d
def chkV (R : List Row) (d : Int) : Int := if R.length = 0 then 80 else if allV R d then 0 else 80
/-- rows that came in: their capacities and numbers are as they may be -/
def OkR (R : List Row) : Prop := ∀ r ∈ R, r.l.length ≤ r.c ∧ (r.c : Int) ≤ 9223372036854775807 ∧ ∀ x ∈ r.l, I64 x
theorem allV_take {R : List Row} {d : Int} {k : Nat} (hk : k < R.length) : allV (R.take (k + 1)) d = (allV (R.take k) d && isV (R.getD k row0).l d) := by
  unfold allV
  rw [List.take_succ_eq_append_getElem hk, List.all_append]
  simp [List.getD, hk]
theorem allV_false {R : List Row} {d : Int} {k : Nat} (hk : k < R.length) (h : isV (R.getD k row0).l d = false) : allV R d = false := by
  unfold allV
  rw [Bool.eq_false_iff]
  intro g
  rw [List.all_eq_true] at g
  rw [g _ (getD_mem hk)] at h
  cases h
set_option maxHeartbeats 1000000 in
theorem vec_check (A : Option Addr) (R : List Row) (c B : Nat) (d : Int) (w : World) (hA : LiesR w B A R) (hR : OkR R) (hl : (R.length : Int) ≤ 9223372036854775807) :
    Calls Try.prog 135 #[.slice A R.length c, .int .i64 d] w fun e w' => e = .returned (.int .i64 (chkV R d)) ∧ ∃ n, w' = w.drewN n := by
  have HA := Lib.hid hA
  have HR := Lib.hid hR
  have HC : Hid (chkV R d = if R.length = 0 then 80 else if allV R d then 0 else 80) := rfl
  generalize chkV R d = C at *
  clear hA hR
  generalize hN : R.length = N at *
  have HN := Lib.hid hN
  clear hN
  by_cases h0 : N = 0
  · subst h0
    go_enter Try.func135, Try.ntmps135
    go_wp2
    go_ret
    exact ⟨ret1i (HC.out.trans (if_pos trivial)).symm, 0, rfl⟩
  · rw [if_neg h0] at HC
    have h0' : ((N : Int) == 0) = false := by simp; omega
    clear h0
    go_enter Try.func135, Try.ntmps135
    go_wp2
    go_loopw [12] (fun i wr => ∃ k : Nat, k ≤ N ∧ i = .int .i64 k ∧ Hid (allV (R.take k) d = true) ∧ Hid (∃ n, wr = w.drewN n)) (fun i _ => N - (intOf i).toNat)
    case atStart => exact ⟨0, by omega, rfl, rfl, ⟨0, rfl⟩⟩
    case round =>
      obtain ⟨k, hk, rfl, HT, HW⟩ := hrel
      by_cases hlt : k < N
      · have HAr : Hid (LiesR wr B A R) := by obtain ⟨n, hn⟩ := HW.out; show LiesR _ _ _ _; rw [hn]; exact HA.out
        obtain ⟨ad, rfl, _, hcell, hlies⟩ := HAr.out.at (k := k) (by have := HN.out; omega)
        obtain ⟨g1, g2, g3⟩ := HR.out _ (getD_mem (R := R) (k := k) (by have := HN.out; omega))
        have K := Lib.hid (vec_is _ _ _ B d wr hlies (by omega) g1)
        have HS := Lib.hid (allV_take (R := R) (d := d) (k := k) (by have := HN.out; omega))
        have HF := Lib.hid (allV_false (R := R) (d := d) (k := k) (by have := HN.out; omega))
        clear hlies g1 g2 g3
        generalize R.getD k row0 = r at *
        obtain ⟨ra, rl, rc⟩ := r
        simp only at hcell K HS HF
        generalize hv : isV rl d = v at *
        have HV := Lib.hid hv
        clear hv
        generalize rl.length = M at *
        cases v
        · go_wp2_with fail
          refine K.out.mono ?_
          rintro e w1 ⟨rfl, n, rfl⟩
          go_wp2
          go_ret
          refine ⟨ret1i ?_, ?_⟩
          · rw [HC.out, HF.out trivial]; rfl
          · obtain ⟨m, hm⟩ := HW.out
            rw [hm]; exact dre2' _ _ _
        · go_wp2_with fail
          refine K.out.mono ?_
          rintro e w1 ⟨rfl, n, rfl⟩
          go_wp2
          refine ⟨⟨k + 1, by omega, by go_num, ?_, ?_⟩, by first | (simp [intOf]; done) | (simp [intOf]; omega)⟩
          · show _ = _
            rw [HS.out, HT.out]; rfl
          · obtain ⟨m, hm⟩ := HW.out
            show ∃ _, _
            rw [hm]; exact dre2' _ _ _
      · obtain rfl : k = N := by omega
        go_wp2
        go_ret
        refine ⟨ret1i ?_, HW.out⟩
        have h1 := HT.out
        rw [List.take_of_length_le (by have := HN.out; omega)] at h1
        rw [HC.out, h1]; rfl
end Go.Proofs.Ytehekdahlnpldaa
