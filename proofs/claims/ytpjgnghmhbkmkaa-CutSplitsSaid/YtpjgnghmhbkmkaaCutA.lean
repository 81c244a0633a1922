import Derived.Test.YtpjgnghmhbkmkaaCutM
import Derived.Test.YtpjgnghmhbkmkaaPickB
import Derived.Test.YtpjgnghmhbkmkaaVecQ

/-! Package cut: Is, Left, Same, may; the reference's. -/
namespace Go.Proofs.Ytpjgnghmhbkmkaa
open Go.RowKit
set_option linter.unusedVariables false
set_option linter.unusedSimpArgs false

theorem cut_may (k a t : Int) (w : World) : Calls Try.prog 72 #[.int .i64 k, .int .i64 a, .int .i64 t] w fun e w' => e = .returned (.bool (decide ((k = 1 ∨ k = 2) ∧ 0 ≤ a ∧ 1 ≤ t ∧ t ≤ 64))) ∧ w = w' := by
  go_enter Try.func72, Try.ntmps72
  go_wp2
  all_goals
    go_ret
    refine ⟨?_, rfl⟩
    refine congrArg (fun b => Ending.returned (.bool b)) (?_ : (_ : Bool) = _)
    rw [Bool.eq_iff_iff]
    simp
    try omega
theorem qdb {w w' : World} (h : ∃ n, w' = w.drewN n) : Below w.heap.size w w' := by obtain ⟨n, rfl⟩ := h; exact below_drewN2 (Below.refl _ _) n
/-- known blocks, carried over calls -/
def Kpc (B : Nat) (W : World) (l : List (Nat × Array Value × TypeId)) (w : World) : Prop := (∀ x ∈ l, Box w x.1 x.2.1 x.2.2) ∧ Below B W w ∧ B ≤ w.heap.size
theorem Kpc.below {B : Nat} {W w w' : World} {l : List (Nat × Array Value × TypeId)} (h : Kpc B W l w) (hb : Below w.heap.size w w') : Kpc B W l w' :=
  ⟨fun x hx => (h.1 x hx).below hb (h.1 x hx).lt, h.2.1.trans (hb.mono h.2.2), Nat.le_trans h.2.2 hb.size⟩
theorem Kpc.alloc {B : Nat} {W w : World} {l : List (Nat × Array Value × TypeId)} (h : Kpc B W l w) (cs : Array Value) (t : TypeId) : Kpc B W ((w.heap.size, cs, t) :: l) (w.alloc (.cells cs t)) := by
  refine ⟨fun x hx => ?_, h.2.1.alloc h.2.2 _, by rw [alloc_size']; exact Nat.le_succ_of_le h.2.2⟩
  rcases List.mem_cons.1 hx with rfl | hx
  · exact Box.new w cs t
  · exact (h.1 x hx).alloc _
theorem Kpc.start (w : World) : Kpc w.heap.size w [] w := ⟨fun x hx => (by cases hx), Below.refl _ _, Nat.le_refl _⟩
theorem Kpc.head {B : Nat} {W w : World} {x : Nat × Array Value × TypeId} {l : List (Nat × Array Value × TypeId)} (h : Kpc B W (x :: l) w) : Box w x.1 x.2.1 x.2.2 := h.1 x List.mem_cons_self
theorem Kpc.tail {B : Nat} {W w : World} {x : Nat × Array Value × TypeId} {l : List (Nat × Array Value × TypeId)} (h : Kpc B W (x :: l) w) : Kpc B W l w := ⟨fun y hy => h.1 y (List.mem_cons_of_mem _ hy), h.2⟩
theorem box_cut {w : World} {g : Nat} {a b : Value} {t : TypeId} (h : Box w g #[a, b] t) : w.cell? ⟨g, 0, none⟩ = some a ∧ w.cell? ⟨g, 1, none⟩ = some b := ⟨h.two.1, h.two.2.1⟩
theorem cut_Is (A : Option Addr) (a : List Int) (c B : Nat) (p d : Int) (w : World) (hA : Lies w B A a) (hB : B ≤ w.heap.size) (hla : (a.length : Int) ≤ 9223372036854775807) (hca : a.length ≤ c) :
    Calls Try.prog 36 #[.agg #[.slice A a.length c, .int .i64 p], .int .i64 d] w fun e w' => e = .returned (.bool (isC a p d)) ∧ Below w.heap.size w w' := by
  have KP := Lib.hid (fun W (h : Below w.heap.size w W) => vec_parts A a c B d W (hA.below (h.mono hB)) hla hca)
  have HV : Hid (isC a p d = (partsV a d && decide (-137438953472 ≤ p ∧ p ≤ 137438953472))) := rfl
  have HX := Lib.hid ((Kpc.start w).alloc #[.slice A a.length c, .int .i64 p] 40)
  generalize isC a p d = R at *
  generalize partsV a d = q at *
  generalize a.length = N at *
  obtain ⟨y0, y1, _, _⟩ := HX.out.head.two
  clear hA
  cases q
  · go_enter Try.func36, Try.ntmps36
    go_wp2_with fail
    refine (KP.out _ HX.out.2.1).mono ?_
    rintro e w1 ⟨rfl, hw⟩
    have J1 := Lib.hid (HX.out.below (qdb hw))
    obtain ⟨x0, x1, _, _⟩ := J1.out.head.two
    clear hw
    go_wp2
    go_ret
    exact ⟨by rw [HV.out]; rfl, J1.out.2.1⟩
  · by_cases h1 : -137438953472 ≤ p
    · by_cases h2 : p ≤ 137438953472
      · go_enter Try.func36, Try.ntmps36
        go_wp2_with fail
        refine (KP.out _ HX.out.2.1).mono ?_
        rintro e w1 ⟨rfl, hw⟩
        have J1 := Lib.hid (HX.out.below (qdb hw))
        obtain ⟨x0, x1, _, _⟩ := J1.out.head.two
        clear hw
        go_wp2
        go_ret
        exact ⟨by rw [HV.out]; simp [h1, h2], J1.out.2.1⟩
      · go_enter Try.func36, Try.ntmps36
        go_wp2_with fail
        refine (KP.out _ HX.out.2.1).mono ?_
        rintro e w1 ⟨rfl, hw⟩
        have J1 := Lib.hid (HX.out.below (qdb hw))
        obtain ⟨x0, x1, _, _⟩ := J1.out.head.two
        clear hw
        go_wp2
        go_ret
        exact ⟨by rw [HV.out]; simp [h1, h2], J1.out.2.1⟩
    · go_enter Try.func36, Try.ntmps36
      go_wp2_with fail
      refine (KP.out _ HX.out.2.1).mono ?_
      rintro e w1 ⟨rfl, hw⟩
      have J1 := Lib.hid (HX.out.below (qdb hw))
      obtain ⟨x0, x1, _, _⟩ := J1.out.head.two
      clear hw
      go_wp2
      go_ret
      exact ⟨by rw [HV.out, show decide (-137438953472 ≤ p ∧ p ≤ 137438953472) = false from by simp; omega]; rfl, J1.out.2.1⟩
theorem retBE {a a' : Bool} {b b' : Int} (h : a = a') (g : b = b') : Ending.returned (.tuple #[.bool a, .int .i64 b]) = .returned (.tuple #[.bool a', .int .i64 b']) := by rw [h, g]
set_option maxHeartbeats 1000000 in
theorem cut_Left (A A2 : Option Addr) (a x : List Int) (c c2 B : Nat) (p : Int) (w : World) (hA : Lies w B A a) (hA2 : Lies w B A2 x) (hB : B ≤ w.heap.size) (hla : (a.length : Int) ≤ 9223372036854775807) (hlx : (x.length : Int) ≤ 9223372036854775807) (hca : a.length ≤ c) (hcx : x.length ≤ c2) :
    Calls Try.prog 34 #[.agg #[.slice A a.length c, .int .i64 p], .slice A2 x.length c2] w fun e w' => e = .returned (.tuple #[.bool (lefB a p x), .int .i64 (lefC a p x)]) ∧ Below w.heap.size w w' := by
  have KI := Lib.hid (fun W (h : Below w.heap.size w W) => cut_Is A a c B p a.length W (hA.below (h.mono hB)) (Nat.le_trans hB h.size) hla hca)
  have KD := Lib.hid (fun W (h : Below w.heap.size w W) => vec_Dot A A2 a x c c2 B W (hA.below (h.mono hB)) (hA2.below (h.mono hB)) hla hlx hca hcx)
  have HC : Hid (lefC a p x = if isC a p a.length then dotC a x else 90) := rfl
  have HB : Hid (lefB a p x = (decide (lefC a p x = 0) && decide (dotN a x < p))) := rfl
  have HX := Lib.hid ((Kpc.start w).alloc #[.slice A a.length c, .int .i64 p] 40)
  generalize lefC a p x = rc at *
  generalize lefB a p x = rb at *
  generalize isC a p a.length = q at *
  generalize dotN a x = n at *
  generalize dotC a x = ec at *
  generalize a.length = N at *
  generalize x.length = M at *
  obtain ⟨y0, y1, _, _⟩ := HX.out.head.two
  clear hA hA2
  cases q
  · go_enter Try.func34, Try.ntmps34
    go_wp2_with fail
    refine (KI.out _ HX.out.2.1).mono ?_
    rintro e w1 ⟨rfl, b1⟩
    have J1 := Lib.hid (HX.out.below b1)
    clear b1
    go_wp2
    go_ret2
    have e1 : rc = 90 := HC.out
    exact ⟨retBE (by rw [HB.out, e1]; rfl) e1.symm, J1.out.2.1⟩
  · have e1 : Hid (rc = ec) := HC.out
    go_enter Try.func34, Try.ntmps34
    go_wp2_with fail
    refine (KI.out _ HX.out.2.1).mono ?_
    rintro e w1 ⟨rfl, b1⟩
    have J1 := Lib.hid (HX.out.below b1)
    obtain ⟨z0, z1, _, _⟩ := J1.out.head.two
    clear b1
    go_wp2_with fail
    refine (KD.out _ J1.out.2.1).mono ?_
    rintro e w2 ⟨rfl, hw⟩
    have J2 := Lib.hid (J1.out.below (qdb hw))
    obtain ⟨u0, u1, _, _⟩ := J2.out.head.two
    clear hw
    by_cases he : ec = 0
    · subst he
      go_wp2
      go_ret2
      exact ⟨retBE (by rw [HB.out, e1.out]; simp) e1.out.symm, J2.out.2.1⟩
    · have hne : (ec != 0) = true := by simpa using he
      go_wp2
      go_ret2
      exact ⟨retBE (by rw [HB.out, e1.out]; simp [he]) e1.out.symm, J2.out.2.1⟩

/-! ### the reference's -/
theorem ref_Is9 (A : Option Addr) (a : List Int) (c B : Nat) (p d : Int) (w : World) (hA : Lies w B A a) (hB : B ≤ w.heap.size) :
    Calls Try.prog 37 #[.agg #[.slice A a.length c, .int .i64 p], .int .i64 d] w fun e w' => e = .returned (.bool (isC a p d)) ∧ Below w.heap.size w w' := by
  have KP := Lib.hid (fun W (h : Below w.heap.size w W) => ref_parts A a c B d W (hA.below (h.mono hB)))
  have HV : Hid (isC a p d = (partsV a d && decide (-137438953472 ≤ p ∧ p ≤ 137438953472))) := rfl
  have HX := Lib.hid ((Kpc.start w).alloc #[.slice A a.length c, .int .i64 p] 40)
  generalize isC a p d = R at *
  generalize partsV a d = q at *
  generalize a.length = N at *
  obtain ⟨y0, y1, _, _⟩ := HX.out.head.two
  clear hA
  cases q
  · go_enter Try.func37, Try.ntmps37
    go_wp2_with fail
    refine (KP.out _ HX.out.2.1).mono ?_
    rintro e w1 ⟨rfl, rfl⟩
    go_wp2
    go_ret
    exact ⟨by rw [HV.out]; rfl, HX.out.2.1⟩
  · by_cases h1 : -137438953472 ≤ p
    · by_cases h2 : p ≤ 137438953472
      · go_enter Try.func37, Try.ntmps37
        go_wp2_with fail
        refine (KP.out _ HX.out.2.1).mono ?_
        rintro e w1 ⟨rfl, rfl⟩
        go_wp2
        go_ret
        exact ⟨by rw [HV.out]; simp [h1, h2], HX.out.2.1⟩
      · go_enter Try.func37, Try.ntmps37
        go_wp2_with fail
        refine (KP.out _ HX.out.2.1).mono ?_
        rintro e w1 ⟨rfl, rfl⟩
        go_wp2
        go_ret
        exact ⟨by rw [HV.out]; simp [h1, h2], HX.out.2.1⟩
    · go_enter Try.func37, Try.ntmps37
      go_wp2_with fail
      refine (KP.out _ HX.out.2.1).mono ?_
      rintro e w1 ⟨rfl, rfl⟩
      go_wp2
      go_ret
      exact ⟨by rw [HV.out, show decide (-137438953472 ≤ p ∧ p ≤ 137438953472) = false from by simp; omega]; rfl, HX.out.2.1⟩
set_option maxHeartbeats 1000000 in
theorem ref_Left9 (A A2 : Option Addr) (a x : List Int) (c c2 B : Nat) (p : Int) (w : World) (hA : Lies w B A a) (hA2 : Lies w B A2 x) (hB : B ≤ w.heap.size) :
    Calls Try.prog 35 #[.agg #[.slice A a.length c, .int .i64 p], .slice A2 x.length c2] w fun e w' => e = .returned (.tuple #[.bool (lefB a p x), .int .i64 (lefC a p x)]) ∧ Below w.heap.size w w' := by
  have KI := Lib.hid (fun W (h : Below w.heap.size w W) => ref_Is9 A a c B p a.length W (hA.below (h.mono hB)) (Nat.le_trans hB h.size))
  have KD := Lib.hid (fun W (h : Below w.heap.size w W) => ref_Dot A A2 a x c c2 B W (hA.below (h.mono hB)) (hA2.below (h.mono hB)))
  have HC : Hid (lefC a p x = if isC a p a.length then dotC a x else 90) := rfl
  have HB : Hid (lefB a p x = (decide (lefC a p x = 0) && decide (dotN a x < p))) := rfl
  have HX := Lib.hid ((Kpc.start w).alloc #[.slice A a.length c, .int .i64 p] 40)
  generalize lefC a p x = rc at *
  generalize lefB a p x = rb at *
  generalize isC a p a.length = q at *
  generalize dotN a x = n at *
  generalize dotC a x = ec at *
  generalize a.length = N at *
  generalize x.length = M at *
  obtain ⟨y0, y1, _, _⟩ := HX.out.head.two
  clear hA hA2
  cases q
  · go_enter Try.func35, Try.ntmps35
    go_wp2_with fail
    refine (KI.out _ HX.out.2.1).mono ?_
    rintro e w1 ⟨rfl, b1⟩
    have J1 := Lib.hid (HX.out.below b1)
    clear b1
    go_wp2
    go_ret2
    have e1 : rc = 90 := HC.out
    exact ⟨retBE (by rw [HB.out, e1]; rfl) e1.symm, J1.out.2.1⟩
  · have e1 : Hid (rc = ec) := HC.out
    go_enter Try.func35, Try.ntmps35
    go_wp2_with fail
    refine (KI.out _ HX.out.2.1).mono ?_
    rintro e w1 ⟨rfl, b1⟩
    have J1 := Lib.hid (HX.out.below b1)
    obtain ⟨z0, z1, _, _⟩ := J1.out.head.two
    clear b1
    go_wp2_with fail
    refine (KD.out _ J1.out.2.1).mono ?_
    rintro e w2 ⟨rfl, hw⟩
    have J2 := Lib.hid (J1.out.below (qdb hw))
    obtain ⟨u0, u1, _, _⟩ := J2.out.head.two
    clear hw
    by_cases he : ec = 0
    · subst he
      go_wp2
      go_ret2
      exact ⟨retBE (by rw [HB.out, e1.out]; simp) e1.out.symm, J2.out.2.1⟩
    · have hne : (ec == 0) = false := by simpa using he
      go_wp2
      go_ret2
      exact ⟨retBE (by rw [HB.out, e1.out]; simp [he]) e1.out.symm, J2.out.2.1⟩
/-- two cuts are the same -/
def samC (a : List Int) (p : Int) (b : List Int) (q : Int) : Bool := decide (a = b) && decide (p = q)
theorem cut_Same (A A2 : Option Addr) (a b : List Int) (c c2 B : Nat) (p q : Int) (w : World) (hA : Lies w B A a) (hA2 : Lies w B A2 b) (hB : B ≤ w.heap.size) (hla : (a.length : Int) ≤ 9223372036854775807) (hlb : (b.length : Int) ≤ 9223372036854775807) :
    Calls Try.prog 38 #[.agg #[.slice A a.length c, .int .i64 p], .agg #[.slice A2 b.length c2, .int .i64 q]] w fun e w' => e = .returned (.bool (samC a p b q)) ∧ Below w.heap.size w w' := by
  have KO := Lib.hid (fun W (h : Below w.heap.size w W) => vec_Order A A2 a b c c2 B W (hA.below (h.mono hB)) (hA2.below (h.mono hB)) hla hlb)
  have HV : Hid (samC a p b q = (decide (ordL a b = 0) && decide (p = q))) := by
    show _ = _
    unfold samC
    rw [decide_eq_decide.2 (ordL_zero a b)]
  have HX := Lib.hid (((Kpc.start w).alloc #[.slice A a.length c, .int .i64 p] 40).alloc #[.slice A2 b.length c2, .int .i64 q] 40)
  simp only [alloc_size'] at HX
  generalize samC a p b q = R at *
  generalize ordL a b = o at *
  generalize a.length = N at *
  generalize b.length = M at *
  obtain ⟨y0, y1, _, _⟩ := HX.out.head.two
  obtain ⟨z0, z1, _, _⟩ := HX.out.tail.head.two
  clear hA hA2
  go_enter Try.func38, Try.ntmps38
  go_wp2_with fail
  refine (KO.out _ HX.out.2.1).mono ?_
  rintro e w1 ⟨rfl, hw⟩
  have J1 := Lib.hid (HX.out.below (qdb hw))
  obtain ⟨y0, y1, _, _⟩ := J1.out.head.two
  obtain ⟨z0, z1, _, _⟩ := J1.out.tail.head.two
  clear hw
  by_cases ho : o = 0
  · subst ho
    go_wp2
    go_ret
    exact ⟨ret_bool (by rw [HV.out]; by_cases h : p = q <;> simp [h]), J1.out.2.1⟩
  · have hne : (o == 0) = false := by simpa using ho
    go_wp2
    go_ret
    exact ⟨ret_bool (by rw [HV.out]; simp [ho]), J1.out.2.1⟩
theorem ref_Same9 (A A2 : Option Addr) (a b : List Int) (c c2 B : Nat) (p q : Int) (w : World) (hA : Lies w B A a) (hA2 : Lies w B A2 b) (hB : B ≤ w.heap.size) (hla : (a.length : Int) ≤ 9223372036854775807) (hlb : (b.length : Int) ≤ 9223372036854775807) :
    Calls Try.prog 39 #[.agg #[.slice A a.length c, .int .i64 p], .agg #[.slice A2 b.length c2, .int .i64 q]] w fun e w' => e = .returned (.bool (samC a p b q)) ∧ Below w.heap.size w w' := by
  have KO := Lib.hid (fun W (h : Below w.heap.size w W) => ref_same1 A A2 a b c c2 B W (hA.below (h.mono hB)) (hA2.below (h.mono hB)) hla hlb)
  have HV : Hid (samC a p b q = (decide (a = b) && decide (p = q))) := rfl
  have HX := Lib.hid (((Kpc.start w).alloc #[.slice A a.length c, .int .i64 p] 40).alloc #[.slice A2 b.length c2, .int .i64 q] 40)
  simp only [alloc_size'] at HX
  generalize samC a p b q = R at *
  generalize decide (a = b) = o at *
  generalize a.length = N at *
  generalize b.length = M at *
  obtain ⟨y0, y1, _, _⟩ := HX.out.head.two
  obtain ⟨z0, z1, _, _⟩ := HX.out.tail.head.two
  clear hA hA2
  by_cases ho : p = q
  · subst ho
    have hpp : (p == p) = true := by simp
    go_enter Try.func39, Try.ntmps39
    go_wp2_with fail
    refine (KO.out _ HX.out.2.1).mono ?_
    rintro e w1 ⟨rfl, hw⟩
    have J1 := Lib.hid (HX.out.below (qdb hw))
    go_wp2
    go_ret
    exact ⟨ret_bool (by rw [HV.out]; cases o <;> simp), J1.out.2.1⟩
  · have hne : (p == q) = false := by simpa using ho
    go_enter Try.func39, Try.ntmps39
    go_wp2
    go_ret
    exact ⟨ret_bool (by rw [HV.out]; simp [ho]), HX.out.2.1⟩
end Go.Proofs.Ytpjgnghmhbkmkaa
