/- Contracts of package score and its reference: Cmp, Mean, Level. -/
import Derived.Test.YtaeodkpkgbjaeaaScoB
import Derived.Test.YtaeodkpkgbjaeaaHarmT
namespace Go.Proofs.Ytaeodkpkgbjaeaa
open Go.RowKit
set_option linter.unusedVariables false
set_option linter.unusedSimpArgs false
set_option maxRecDepth 100000

theorem lies_newS (w : World) (l : List PQ) (t : TypeId) : LiesS (w.alloc (.cells (celS l).toArray t)) (w.heap.size + 1) (some ⟨w.heap.size, 0, none⟩) l := by
  refine lies_cells (ad := ⟨w.heap.size, 0, none⟩) (Nat.lt_succ_self _) fun j u hu => ?_
  have e1 : (⟨w.heap.size, 0, none⟩ : Addr).add j = ⟨w.heap.size, j, none⟩ := by unfold Addr.add; split <;> simp_all
  rw [e1, (Box.new w _ t).cell j]
  simpa using hu
theorem okS_one {a b : Int} (ha : I64 a) (hb : I64 b) : okS [(a, b)] := by
  intro x hx
  simp only [List.mem_cons, List.not_mem_nil, or_false] at hx
  rcases hx with rfl
  exact ⟨ha, hb⟩
theorem okS_two {a b c d : Int} (ha : I64 a) (hb : I64 b) (hc : I64 c) (hd : I64 d) : okS [(a, b), (c, d)] := by
  intro x hx
  simp only [List.mem_cons, List.not_mem_nil, or_false] at hx
  rcases hx with rfl | rfl
  · exact ⟨ha, hb⟩
  · exact ⟨hc, hd⟩
theorem check_one (a b : Int) (ha : I64 a) (hb : I64 b) (g : Nat) (W : World) (hg : W.heap.size = g) : Calls Try.prog 157 #[.slice (some ⟨g, 0, none⟩) 1 1] (W.alloc (.cells #[.int .i64 a, .int .i64 b] 24)) fun e w' => e = .returned (.int .i64 (chkE [(a, b)])) ∧ Below W.heap.size W w' := by
  subst hg
  have h := sco_check (some ⟨W.heap.size, 0, none⟩) [(a, b)] 1 (W.alloc (.cells (celS [(a, b)]).toArray 24)) ((lies_newS W _ _).mono (by simp)) (okS_one ha hb) (by simp)
  refine Calls.mono h fun e w' h => ?_
  obtain ⟨he, hb⟩ := h
  exact ⟨he, ((Below.refl _ _).alloc (Nat.le_refl _) _).trans (hb.mono (by simp))⟩
theorem check_two (a b c d : Int) (ha : I64 a) (hb : I64 b) (hc : I64 c) (hd : I64 d) (g : Nat) (W : World) (hg : W.heap.size = g) : Calls Try.prog 157 #[.slice (some ⟨g, 0, none⟩) 2 2] (W.alloc (.cells #[.int .i64 a, .int .i64 b, .int .i64 c, .int .i64 d] 24)) fun e w' => e = .returned (.int .i64 (chkE [(a, b), (c, d)])) ∧ Below W.heap.size W w' := by
  subst hg
  have h := sco_check (some ⟨W.heap.size, 0, none⟩) [(a, b), (c, d)] 2 (W.alloc (.cells (celS [(a, b), (c, d)]).toArray 24)) ((lies_newS W _ _).mono (by simp)) (okS_two ha hb hc hd) (by simp)
  refine Calls.mono h fun e w' h => ?_
  obtain ⟨he, hb⟩ := h
  exact ⟨he, ((Below.refl _ _).alloc (Nat.le_refl _) _).trans (hb.mono (by simp))⟩
theorem chk_one {a b : Int} : (ScoOk a b → chkE [(a, b)] = 0) ∧ (¬ ScoOk a b → chkE [(a, b)] = 130) := by
  unfold chkE allS
  constructor
  · intro h; simp [scoB_of h]
  · intro h; simp [scoB_no h]
theorem chk_two {a b c d : Int} : (ScoOk a b ∧ ScoOk c d → chkE [(a, b), (c, d)] = 0) ∧ (¬ (ScoOk a b ∧ ScoOk c d) → chkE [(a, b), (c, d)] = 130) := by
  unfold chkE allS
  constructor
  · rintro ⟨h, g⟩; simp [scoB_of h, scoB_of g]
  · intro h
    by_cases h1 : ScoOk a b
    · have h2 : ¬ ScoOk c d := fun g => h ⟨h1, g⟩
      simp [scoB_no h2]
    · simp [scoB_no h1]
def cpE (a b c d : Int) : Int := if ScoOk a b ∧ ScoOk c d then 0 else 130
def cpN (a b c d : Int) : Int := if ScoOk a b ∧ ScoOk c d then oddC a b c d else 0
abbrev cpV (a b c d : Int) : Value := .tuple #[.int .i64 (cpN a b c d), .int .i64 (cpE a b c d)]
theorem cpV_ok {a b c d : Int} (h : ScoOk a b ∧ ScoOk c d) : Ending.returned (.tuple #[.int .i64 (oddC a b c d), .int .i64 0]) = .returned (cpV a b c d) := by
  unfold cpV cpN cpE; rw [if_pos h, if_pos h]
theorem cpV_no {a b c d : Int} (h : ¬ (ScoOk a b ∧ ScoOk c d)) : Ending.returned (.tuple #[.int .i64 0, .int .i64 130]) = .returned (cpV a b c d) := by
  unfold cpV cpN cpE; rw [if_neg h, if_neg h]
set_option maxHeartbeats 2000000 in
theorem sco_cmp (a b c d : Int) (ha : I64 a) (hb : I64 b) (hc : I64 c) (hd : I64 d) (w : World) : Calls Try.prog 146 #[.agg #[.int .i64 a, .int .i64 b], .agg #[.int .i64 c, .int .i64 d]] w fun e w' => e = .returned (cpV a b c d) ∧ Below w.heap.size w w' := by
  have J0 := Lib.hid (((Keeps.start w).alloc #[.int .i64 a, .int .i64 b] 24).alloc #[.int .i64 c, .int .i64 d] 24)
  have K := Lib.hid (fun g W hg => check_two a b c d ha hb hc hd g W hg)
  have KO := Lib.hid (fun W => sco_order a b c d ha hb hc hd W)
  by_cases h : ScoOk a b ∧ ScoOk c d
  · have HR := Lib.hid (cpV_ok h)
    rw [chk_two.1 h] at K
    generalize cpV a b c d = V at *
    generalize oddC a b c d = R at *
    clear h ha hb hc hd
    go_enter Try.func146, Try.ntmps146
    obtain ⟨r0, r1, r2, r3⟩ := J0.out.head.two
    obtain ⟨x0, x1, x2, x3⟩ := J0.out.tail.head.two
    go_wp2_with fail
    refine (K.out _ _ (by simp)).mono ?_
    rintro r w1 ⟨rfl, b⟩
    have J1 := Lib.hid (J0.out.below b)
    clear r0 r1 r2 r3 x0 x1 x2 x3 b
    obtain ⟨r0, r1, r2, r3⟩ := J1.out.head.two
    obtain ⟨x0, x1, x2, x3⟩ := J1.out.tail.head.two
    simp only [alloc_size'] at r0 r1 r2 r3
    go_wp2_with fail
    refine (KO.out _).mono ?_
    rintro r w2 ⟨rfl, b⟩
    have J2 := Lib.hid (J1.out.below b)
    clear b
    go_wp2
    go_ret2
    exact ⟨HR.out, J2.out.2.1⟩
  · have HR := Lib.hid (cpV_no h)
    rw [chk_two.2 h] at K
    generalize cpV a b c d = V at *
    clear h KO ha hb hc hd
    go_enter Try.func146, Try.ntmps146
    obtain ⟨r0, r1, r2, r3⟩ := J0.out.head.two
    obtain ⟨x0, x1, x2, x3⟩ := J0.out.tail.head.two
    go_wp2_with fail
    refine (K.out _ _ (by simp)).mono ?_
    rintro r w1 ⟨rfl, b⟩
    have J1 := Lib.hid (J0.out.below b)
    clear r0 r1 r2 r3 x0 x1 x2 x3 b
    go_wp2
    go_ret2
    exact ⟨HR.out, J1.out.2.1⟩
def mnE (p q : Int) : Int := if ScoOk p q then 0 else 130
def mnN (p q : Int) : Int := if ScoOk p q then p / q else 0
abbrev mnV (p q : Int) : Value := .tuple #[.int .i64 (mnN p q), .int .i64 (mnE p q)]
theorem mnV_ok {p q : Int} (h : ScoOk p q) : Ending.returned (.tuple #[.int .i64 (p / q), .int .i64 0]) = .returned (mnV p q) := by
  unfold mnV mnN mnE; rw [if_pos h, if_pos h]
theorem mnV_no {p q : Int} (h : ¬ ScoOk p q) : Ending.returned (.tuple #[.int .i64 0, .int .i64 130]) = .returned (mnV p q) := by
  unfold mnV mnN mnE; rw [if_neg h, if_neg h]
/-- the level, and what is wrong with what is asked -/
def LvOk (p q n : Int) : Prop := (2 ≤ n ∧ n ≤ 64) ∧ ScoOk p q
instance (p q n : Int) : Decidable (LvOk p q n) := by unfold LvOk; infer_instance
def lvE (p q n : Int) : Int := if ¬ (2 ≤ n ∧ n ≤ 64) then 1 else if ScoOk p q then 0 else 130
def lvN (p q n : Int) : Int := if LvOk p q n then lvC (normN (heldN n)) p q else 0
abbrev lvV (p q n : Int) : Value := .tuple #[.int .i64 (lvN p q n), .int .i64 (lvE p q n)]
theorem lvV_arg {p q n : Int} (h : ¬ (2 ≤ n ∧ n ≤ 64)) : Ending.returned (.tuple #[.int .i64 0, .int .i64 1]) = .returned (lvV p q n) := by
  unfold lvV lvN lvE; rw [if_neg (fun g => h g.1), if_pos h]
theorem lvV_no {p q n : Int} (h : 2 ≤ n ∧ n ≤ 64) (g : ¬ ScoOk p q) : Ending.returned (.tuple #[.int .i64 0, .int .i64 130]) = .returned (lvV p q n) := by
  unfold lvV lvN lvE; rw [if_neg (fun k => g k.2), if_neg (fun k => k h), if_neg g]
theorem lvV_ok {p q n : Int} (h : 2 ≤ n ∧ n ≤ 64) (g : ScoOk p q) : Ending.returned (.tuple #[.int .i64 (1000 * (normN (heldN n) * q) / (normN (heldN n) * q + p)), .int .i64 0]) = .returned (lvV p q n) := by
  unfold lvV lvN lvE lvC; rw [if_pos (show LvOk p q n from ⟨h, g⟩), if_neg (fun k => k h), if_pos g]
theorem norm_bd : ∀ n, n < 65 → 2 ≤ n → 1073741824 ≤ normN n ∧ normN n ≤ 20000000000 := by decide +kernel
theorem norm_of {n : Int} (h : 2 ≤ n ∧ n ≤ 64) : 1073741824 ≤ normN (heldN n) ∧ normN (heldN n) ≤ 20000000000 := by
  have e : heldN n = n.toNat := by unfold heldN; rw [if_neg (by omega), if_neg (by omega)]
  rw [e]
  exact norm_bd _ (by omega) (by omega)
theorem cq_bd {c q : Int} (hc : 1073741824 ≤ c ∧ c ≤ 20000000000) (hq : 1 ≤ q ∧ q ≤ 16) : 1073741824 ≤ c * q ∧ c * q ≤ 320000000000 := by
  have h1 := Int.mul_le_mul hc.1 hq.1 (by omega) (by omega)
  have h2 := Int.mul_le_mul hc.2 hq.2 (by omega) (by omega)
  omega
end Go.Proofs.Ytaeodkpkgbjaeaa
