/- WideW WideC WideI WideS WideJ -/
import Derived.Test.YtbnpbflndnjmcaaDoorBase
import Derived.Deep.RegionHeld3
import Derived.Deep.RegionWith
import Derived.Test.YtbnpbflndnjmcaaDoorBigs
import Derived.IntWalk
import Derived.Outline

/-! Contracts of package wide: Of, Mul, Add, Sub, and of cmp.Compare, cmp.Or. -/
namespace Go.Proofs.YtbnpbflndnjmcaaDoor
open Go.RowKit

/-- a wide number, or nought if there is none, and whether there is -/
def wfH (n : Int) : Int := if 0 ≤ n ∧ n < 340282366920938463463374607431768211456 then n / 18446744073709551616 else 0
def wfL (n : Int) : Int := if 0 ≤ n ∧ n < 340282366920938463463374607431768211456 then n % 18446744073709551616 else 0
def wfE (n : Int) : Int := if 0 ≤ n ∧ n < 340282366920938463463374607431768211456 then 0 else 10
abbrev wfV (n : Int) : Value := .tuple #[.agg #[.int .u64 (wfH n), .int .u64 (wfL n)], .int .i64 (wfE n)]
/-- what two words say -/
def wv (h l : Int) : Int := h * 18446744073709551616 + l
theorem wfV_in {n h l : Int} (hn : 0 ≤ n ∧ n < 340282366920938463463374607431768211456) (e : h = n / 18446744073709551616) (f : l = n % 18446744073709551616) :
    Ending.returned (.tuple #[.agg #[.int .u64 h, .int .u64 l], .int .i64 0]) = .returned (wfV n) := by
  unfold wfV wfH wfL wfE; rw [if_pos hn, if_pos hn, if_pos hn, e, f]
theorem wfV_out {n : Int} (hn : ¬ (0 ≤ n ∧ n < 340282366920938463463374607431768211456)) :
    Ending.returned (.tuple #[.agg #[.int .u64 0, .int .u64 0], .int .i64 10]) = .returned (wfV n) := by
  unfold wfV wfH wfL wfE; rw [if_neg hn, if_neg hn, if_neg hn]

theorem wide_of (n : Int) (w : World) :
    Calls Tryd.prog 86 #[.int .u64 n] w fun e w' => e = .returned (.agg #[.int .u64 0, .int .u64 n]) ∧ Below w.heap.size w w' := by
  go_enter Tryd.func86, Tryd.ntmps86
  go_wp2
  refine bodyPost_ret (v := .agg #[.int .u64 0, .int .u64 n]) (by simp [results, Tryd.results86, go_sem]) rfl ⟨rfl, ?_⟩
  exact (Below.refl _ _).alloc (Nat.le_refl _) _
theorem wide_mul (a b : Int) (ha : U64 a) (hb : U64 b) (w : World) :
    Calls Tryd.prog 74 #[.int .u64 a, .int .u64 b] w fun e w' => e = .returned (.agg #[.int .u64 (a * b / 18446744073709551616), .int .u64 (a * b % 18446744073709551616)]) ∧ Below w.heap.size w w' := by
  go_enter Tryd.func74, Tryd.ntmps74
  go_wp2_with (go_at_call 79; refine (word_mul _ _ (by assumption) (by assumption) _).mono ?_; rintro e w' ⟨rfl, rfl⟩)
  refine bodyPost_ret (v := .agg #[.int .u64 (a * b / 18446744073709551616), .int .u64 (a * b % 18446744073709551616)]) (by simp [results, Tryd.results74, go_sem]) rfl ⟨rfl, ?_⟩
  exact (Below.refl _ _).alloc (Nat.le_refl _) _

theorem wide_add (ah al bh bl : Int) (h1 : U64 ah) (h2 : U64 al) (h3 : U64 bh) (h4 : U64 bl) (w : World) :
    Calls Tryd.prog 105 #[.agg #[.int .u64 ah, .int .u64 al], .agg #[.int .u64 bh, .int .u64 bl]] w fun e w' => e = .returned (wfV (wv ah al + wv bh bl)) ∧ Below w.heap.size w w' := by
  have hc : 0 ≤ (al + bl) / 18446744073709551616 ∧ (al + bl) / 18446744073709551616 ≤ 1 := by unfold U64 at *; omega
  have K1 := Lib.hid (fun W => word_add al bl 0 h2 h4 (by omega) (by omega) W)
  have K2 := Lib.hid (fun c (h : 0 ≤ c ∧ c ≤ 1) W => word_add ah bh c h1 h3 h.1 h.2 W)
  have HB : Hid (U64 ah ∧ U64 al ∧ U64 bh ∧ U64 bl) := ⟨h1, h2, h3, h4⟩
  go_enter Tryd.func105, Tryd.ntmps105
  go_wp2_with fail
  refine (K1.out _).mono ?_
  rintro e w' ⟨rfl, rfl⟩
  generalize hC : (al + bl + 0) / 18446744073709551616 = c1 at *
  have hcc : 0 ≤ c1 ∧ c1 ≤ 1 := by rw [← hC]; unfold U64 at *; omega
  generalize hD : (al + bl + 0) % 18446744073709551616 = d1 at *
  have HC := Lib.hid hC
  have HD := Lib.hid hD
  clear hC hD
  go_wp2_with fail
  refine (K2.out c1 hcc _).mono ?_
  rintro e w' ⟨rfl, rfl⟩
  generalize hC2 : (ah + bh + c1) / 18446744073709551616 = c2 at *
  generalize hD2 : (ah + bh + c1) % 18446744073709551616 = d2 at *
  have HC2 := Lib.hid hC2
  have HD2 := Lib.hid hD2
  clear hC2 hD2
  by_cases hz : c2 = 0
  · subst hz
    go_wp2
    refine bodyPost_ret (v := .tuple #[.agg #[.int .u64 d2, .int .u64 d1], .int .i64 0]) (by simp [results, Tryd.results105, go_sem]) rfl ⟨?_, ?_⟩
    · have := HC.out; have := HD.out; have := HC2.out; have := HD2.out
      obtain ⟨u1, u2, u3, u4⟩ := HB.out
      unfold U64 at *
      exact wfV_in (by unfold wv; omega) (by unfold wv; omega) (by unfold wv; omega)
    · exact ((((Below.refl _ _).alloc (Nat.le_refl _) _).alloc (by simp) _).alloc (by simp; omega) _)
  · have hzb : (c2 != 0) = true := by simpa using hz
    have HZ := Lib.hid hz
    clear hz
    go_wp2
    refine bodyPost_ret (v := .tuple #[.agg #[.int .u64 0, .int .u64 0], .int .i64 10]) (by simp [results, Tryd.results105, go_sem]) rfl ⟨?_, ?_⟩
    · have := HC.out; have := HD.out; have := HC2.out; have := HD2.out; have := HZ.out
      obtain ⟨u1, u2, u3, u4⟩ := HB.out
      unfold U64 at *
      exact wfV_out (by unfold wv; omega)
    · exact ((((Below.refl _ _).alloc (Nat.le_refl _) _).alloc (by simp) _).alloc (by simp; omega) _)

end Go.Proofs.YtbnpbflndnjmcaaDoor

/-! Contracts of cmp.Compare and cmp.Or as wide calls them, of wide.Cmp, product and Prods. -/
namespace Go.Proofs.YtbnpbflndnjmcaaDoor
open Go.RowKit

theorem cmp_u64 (a b : Int) (w : World) :
    Calls Tryd.prog 77 #[.int .u64 a, .int .u64 b] w fun e w' => e = .returned (.int .i64 (cmpI a b)) ∧ w = w' := by
  have h1 : (a != a) = false := by simp
  have h2 : (b != b) = false := by simp
  rcases Int.lt_trichotomy a b with h | h | h
  · have HC : Hid (cmpI a b = -1) := by show _ = _; unfold cmpI; rw [if_pos h]
    go_enter Tryd.func77, Tryd.ntmps77
    go_wp2
    go_ret
    exact ⟨ret1i HC.out.symm, rfl⟩
  · have HC : Hid (cmpI a b = 0) := by show _ = _; unfold cmpI; rw [if_neg (by omega), if_pos h]
    subst h
    go_enter Tryd.func77, Tryd.ntmps77
    go_wp2
    go_ret
    exact ⟨ret1i HC.out.symm, rfl⟩
  · have HC : Hid (cmpI a b = 1) := by show _ = _; unfold cmpI; rw [if_neg (by omega), if_neg (by omega)]
    have h3 : ¬ a < b := by omega
    go_enter Tryd.func77, Tryd.ntmps77
    go_wp2
    go_ret
    exact ⟨ret1i HC.out.symm, rfl⟩
theorem cmp_int (a b : Int) (w : World) :
    Calls Tryd.prog 62 #[.int .i64 a, .int .i64 b] w fun e w' => e = .returned (.int .i64 (cmpI a b)) ∧ w = w' := by
  have h1 : (a != a) = false := by simp
  have h2 : (b != b) = false := by simp
  rcases Int.lt_trichotomy a b with h | h | h
  · have HC : Hid (cmpI a b = -1) := by show _ = _; unfold cmpI; rw [if_pos h]
    go_enter Tryd.func62, Tryd.ntmps62
    go_wp2
    go_ret
    exact ⟨ret1i HC.out.symm, rfl⟩
  · have HC : Hid (cmpI a b = 0) := by show _ = _; unfold cmpI; rw [if_neg (by omega), if_pos h]
    subst h
    go_enter Tryd.func62, Tryd.ntmps62
    go_wp2
    go_ret
    exact ⟨ret1i HC.out.symm, rfl⟩
  · have HC : Hid (cmpI a b = 1) := by show _ = _; unfold cmpI; rw [if_neg (by omega), if_neg (by omega)]
    have h3 : ¬ a < b := by omega
    go_enter Tryd.func62, Tryd.ntmps62
    go_wp2
    go_ret
    exact ⟨ret1i HC.out.symm, rfl⟩

/-- the first of two that is not 0 -/
def or2 (x y : Int) : Int := if x ≠ 0 then x else y
theorem cmp_or (g : Nat) (x y : Int) (w : World) (h0 : w.cell? ⟨g, 0, none⟩ = some (.int .i64 x)) (h1 : w.cell? ⟨g, 1, none⟩ = some (.int .i64 y)) :
    Calls Tryd.prog 76 #[.slice (some ⟨g, 0, none⟩) 2 2] w fun e w' => e = .returned (.int .i64 (or2 x y)) ∧ w = w' := by
  by_cases hx : x = 0
  · have hxb : (x != 0) = false := by simpa using hx
    have HO : Hid (or2 x y = y) := by show _ = _; unfold or2; rw [if_neg (by simpa using hx)]
    clear hx
    by_cases hy : y = 0
    · have hyb : (y != 0) = false := by simpa using hy
      have HY := Lib.hid hy
      clear hy
      go_enter Tryd.func76, Tryd.ntmps76
      go_wp2
      refine wp_loop_rounds 3 ?_
      rw [rounds_succ]
      go_wp2
      rw [rounds_succ]
      go_wp2
      rw [rounds_succ]
      go_wp2
      go_ret
      exact ⟨ret1i (by rw [HO.out, HY.out]), rfl⟩
    · have hyb : (y != 0) = true := by simpa using hy
      clear hy
      go_enter Tryd.func76, Tryd.ntmps76
      go_wp2
      refine wp_loop_rounds 3 ?_
      rw [rounds_succ]
      go_wp2
      rw [rounds_succ]
      go_wp2
      go_ret
      exact ⟨ret1i HO.out.symm, rfl⟩
  · have hxb : (x != 0) = true := by simpa using hx
    have HO : Hid (or2 x y = x) := by show _ = _; unfold or2; rw [if_pos hx]
    clear hx
    go_enter Tryd.func76, Tryd.ntmps76
    go_wp2
    refine wp_loop_rounds 3 ?_
    rw [rounds_succ]
    go_wp2
    go_ret
    exact ⟨ret1i HO.out.symm, rfl⟩

theorem or_cmp (ah al bh bl : Int) (h2 : U64 al) (h4 : U64 bl) : or2 (cmpI ah bh) (cmpI al bl) = cmpI (wv ah al) (wv bh bl) := by
  unfold U64 at *
  rcases Int.lt_trichotomy ah bh with h | h | h
  · have e1 : cmpI ah bh = -1 := by unfold cmpI; rw [if_pos h]
    have e2 : cmpI (wv ah al) (wv bh bl) = -1 := by unfold cmpI wv; rw [if_pos (by omega)]
    rw [e1, e2]; rfl
  · have e1 : cmpI ah bh = 0 := by unfold cmpI; rw [if_neg (by omega), if_pos h]
    rw [e1]
    subst h
    unfold or2 cmpI wv
    rw [if_neg (by simp)]
    rcases Int.lt_trichotomy al bl with g | g | g
    · rw [if_pos g, if_pos (by omega)]
    · rw [if_neg (by omega), if_pos g, if_neg (by omega), if_pos (by omega)]
    · rw [if_neg (by omega), if_neg (by omega), if_neg (by omega), if_neg (by omega)]
  · have e1 : cmpI ah bh = 1 := by unfold cmpI; rw [if_neg (by omega), if_neg (by omega)]
    have e2 : cmpI (wv ah al) (wv bh bl) = 1 := by unfold cmpI wv; rw [if_neg (by omega), if_neg (by omega)]
    rw [e1, e2]; rfl

set_option maxHeartbeats 1000000 in
theorem wide_cmp (ah al bh bl : Int) (h2 : U64 al) (h4 : U64 bl) (w : World) :
    Calls Tryd.prog 63 #[.agg #[.int .u64 ah, .int .u64 al], .agg #[.int .u64 bh, .int .u64 bl]] w fun e w' => e = .returned (.int .i64 (cmpI (wv ah al) (wv bh bl))) ∧ Below w.heap.size w w' := by
  have HO := Lib.hid (or_cmp ah al bh bl h2 h4)
  go_enter Tryd.func63, Tryd.ntmps63
  go_wp2
  go_region_held3 (fun w1 => w1.cell? ⟨w.heap.size, 0, none⟩ = some (.int .u64 ah) ∧ w1.cell? ⟨w.heap.size, 1, none⟩ = some (.int .u64 al) ∧ w1.cell? ⟨w.heap.size + 1, 0, none⟩ = some (.int .u64 bh) ∧ w1.cell? ⟨w.heap.size + 1, 1, none⟩ = some (.int .u64 bl)) (go_keep)
    (first | (go_at_call 77; ((with_reducible refine (cmp_u64 ah bh _).mono ?_); rintro e w' ⟨rfl, rfl⟩)) | (go_at_call 77; ((with_reducible refine (cmp_u64 al bl _).mono ?_); rintro e w' ⟨rfl, rfl⟩)) | (go_at_call 76; refine (cmp_or _ (cmpI ah bh) (cmpI al bl) _ (by simp [go_sem]) (by simp [go_sem])).mono ?_; rintro e w' ⟨rfl, rfl⟩))
  go_wp2
  go_ret
  exact ⟨ret1i HO.out, ((((Below.refl _ _).alloc (Nat.le_refl _) _).alloc (by simp) _).alloc (by simp; omega) _).drew⟩

/-! ### product, Prods -/
def sg (a : Int) : Int := cmpI a 0
theorem sg_mul (a b : Int) : sg a * sg b = sg (a * b) := by
  unfold sg cmpI
  rcases Int.lt_trichotomy a 0 with h | h | h <;> rcases Int.lt_trichotomy b 0 with g | g | g
  · have := Int.mul_pos_of_neg_of_neg h g
    rw [if_pos h, if_pos g, if_neg (by omega), if_neg (by omega)]; rfl
  · subst g; simp
  · have := Int.mul_neg_of_neg_of_pos h g
    rw [if_pos h, if_neg (by omega), if_neg (by omega), if_pos this]; rfl
  · subst h; simp
  · subst h; simp
  · subst h; simp
  · have := Int.mul_neg_of_pos_of_neg h g
    rw [if_neg (by omega), if_neg (by omega), if_pos g, if_pos this]; rfl
  · subst g; simp
  · have := Int.mul_pos h g
    rw [if_neg (by omega), if_neg (by omega), if_neg (by omega), if_neg (by omega), if_neg (by omega), if_neg (by omega)]; rfl
theorem sg_cases (a : Int) : (a < 0 ∧ sg a = -1) ∨ (a = 0 ∧ sg a = 0) ∨ (0 < a ∧ sg a = 1) := by
  unfold sg cmpI
  rcases Int.lt_trichotomy a 0 with h | h | h
  · exact .inl ⟨h, by rw [if_pos h]⟩
  · exact .inr (.inl ⟨h, by rw [if_neg (by omega), if_pos h]⟩)
  · exact .inr (.inr ⟨h, by rw [if_neg (by omega), if_neg (by omega)]⟩)
theorem cmp_cases (a b : Int) : (a < b ∧ cmpI a b = -1) ∨ (a = b ∧ cmpI a b = 0) ∨ (b < a ∧ cmpI a b = 1) := by
  unfold cmpI
  rcases Int.lt_trichotomy a b with h | h | h
  · exact .inl ⟨h, by rw [if_pos h]⟩
  · exact .inr (.inl ⟨h, by rw [if_neg (by omega), if_pos h]⟩)
  · exact .inr (.inr ⟨h, by rw [if_neg (by omega), if_neg (by omega)]⟩)
theorem prods_ne (P Q : Int) (h : sg P ≠ sg Q) : cmpI (sg P) (sg Q) = cmpI P Q := by
  rcases sg_cases P with ⟨p, e⟩ | ⟨p, e⟩ | ⟨p, e⟩ <;> rcases sg_cases Q with ⟨q, f⟩ | ⟨q, f⟩ | ⟨q, f⟩ <;> rcases cmp_cases P Q with ⟨r, g⟩ | ⟨r, g⟩ | ⟨r, g⟩ <;> rw [e, f] at h ⊢ <;> rw [g] <;> first | rfl | omega | exact absurd rfl h
theorem prods_eq (P Q : Int) (h : sg P = sg Q) : sg P * cmpI P.natAbs Q.natAbs = cmpI P Q := by
  rcases sg_cases P with ⟨p, e⟩ | ⟨p, e⟩ | ⟨p, e⟩ <;> rcases sg_cases Q with ⟨q, f⟩ | ⟨q, f⟩ | ⟨q, f⟩ <;> rcases cmp_cases P Q with ⟨r, g⟩ | ⟨r, g⟩ | ⟨r, g⟩ <;> rcases cmp_cases P.natAbs Q.natAbs with ⟨s, k⟩ | ⟨s, k⟩ | ⟨s, k⟩ <;> rw [e, f] at h <;> rw [e, g, k] <;> first | rfl | omega

theorem size_u64 {a : Int} (h : I64 a) : U64 a.natAbs := by unfold I64 at h; unfold U64; omega
theorem sg_bd (a : Int) : -1 ≤ sg a ∧ sg a ≤ 1 := by rcases sg_cases a with ⟨_, e⟩ | ⟨_, e⟩ | ⟨_, e⟩ <;> rw [e] <;> omega
theorem sg_mul_bd (a b : Int) : -1 ≤ sg a * sg b ∧ sg a * sg b ≤ 1 := by rw [sg_mul]; exact sg_bd _
theorem cmp_0 (a : Int) (w : World) : Calls Tryd.prog 62 #[.int .i64 a, .int .i64 0] w fun e w' => e = .returned (.int .i64 (sg a)) ∧ w = w' := cmp_int a 0 w
theorem wide_product (a b : Int) (ha : I64 a) (hb : I64 b) (w : World) :
    Calls Tryd.prog 61 #[.int .i64 a, .int .i64 b] w fun e w' => e = .returned (.tuple #[.int .i64 (sg (a * b)), .agg #[.int .u64 ((a * b).natAbs / 18446744073709551616), .int .u64 ((a * b).natAbs % 18446744073709551616)]]) ∧ Below w.heap.size w w' := by
  have ua := size_u64 ha
  have ub := size_u64 hb
  have hs := sg_mul_bd a b
  have HS := Lib.hid (sg_mul a b)
  have HN : Hid ((a.natAbs : Int) * b.natAbs = (a * b).natAbs) := by show _ = _; rw [Int.natAbs_mul]; rfl
  have K1 := Lib.hid (fun W => word_size a ha W)
  have K2 := Lib.hid (fun W => word_size b hb W)
  have K3 := Lib.hid (fun W => wide_mul a.natAbs b.natAbs ua ub W)
  rw [HN.out] at K3
  have HX := Lib.hid (Box.new w #[.int .u64 0, .int .u64 0] 71)
  go_enter Tryd.func61, Tryd.ntmps61
  go_wp2_with fail
  refine (cmp_0 a _).mono ?_
  rintro e w' ⟨rfl, rfl⟩
  go_wp2_with fail
  refine (cmp_0 b _).mono ?_
  rintro e w' ⟨rfl, rfl⟩
  go_wp2_with fail
  refine (K1.out _).mono ?_
  rintro e w' ⟨rfl, rfl⟩
  go_wp2_with fail
  refine (K2.out _).mono ?_
  rintro e w' ⟨rfl, rfl⟩
  go_wp2_with fail
  refine (K3.out _).mono ?_
  rintro e w1 ⟨rfl, b1⟩
  obtain ⟨x0, x1, x2, x3⟩ := (Box.below HX.out b1 (by simp)).two
  go_wp2
  refine bodyPost_ret (v := .tuple #[.int .i64 (sg a * sg b), .agg #[.int .u64 ((a * b).natAbs / 18446744073709551616), .int .u64 ((a * b).natAbs % 18446744073709551616)]]) (by simp [results, Tryd.results61, go_sem, x0, x1]) rfl ⟨by rw [HS.out], ?_⟩
  exact ((((Below.refl _ _).alloc (Nat.le_refl _) _).trans (b1.mono (by simp))).setCell (p := ⟨w.heap.size, 0, none⟩) (Nat.le_refl _) _).setCell (p := ⟨w.heap.size, 1, none⟩) (Nat.le_refl _) _

theorem u64_of_mod (n : Int) : U64 (n % 18446744073709551616) := by unfold U64; omega
theorem wv_split (n : Int) : wv (n / 18446744073709551616) (n % 18446744073709551616) = n := by unfold wv; omega
theorem wide_prods (a b c d : Int) (ha : I64 a) (hb : I64 b) (hc : I64 c) (hd : I64 d) (w : World) :
    Calls Tryd.prog 44 #[.int .i64 a, .int .i64 b, .int .i64 c, .int .i64 d] w fun e w' => e = .returned (.int .i64 (cmpI (a * b) (c * d))) ∧ Below w.heap.size w w' := by
  have K1 := Lib.hid (fun W => wide_product a b ha hb W)
  have K2 := Lib.hid (fun W => wide_product c d hc hd W)
  generalize a * b = P at *
  generalize c * d = Q at *
  have hp := sg_bd P
  have hq := sg_bd Q
  have U1 := u64_of_mod P.natAbs
  have U2 := u64_of_mod Q.natAbs
  have KC : Hid (∀ W, Calls Tryd.prog 63 #[.agg #[.int .u64 (P.natAbs / 18446744073709551616), .int .u64 (P.natAbs % 18446744073709551616)], .agg #[.int .u64 (Q.natAbs / 18446744073709551616), .int .u64 (Q.natAbs % 18446744073709551616)]] W fun e w' => e = .returned (.int .i64 (cmpI P.natAbs Q.natAbs)) ∧ Below W.heap.size W w') := by
    intro W
    have h := wide_cmp (P.natAbs / 18446744073709551616) (P.natAbs % 18446744073709551616) (Q.natAbs / 18446744073709551616) (Q.natAbs % 18446744073709551616) U1 U2 W
    rw [wv_split, wv_split] at h
    exact h
  clear U1 U2
  generalize (P.natAbs : Int) / 18446744073709551616 = H1 at *
  generalize (P.natAbs : Int) % 18446744073709551616 = L1 at *
  generalize (Q.natAbs : Int) / 18446744073709551616 = H2 at *
  generalize (Q.natAbs : Int) % 18446744073709551616 = L2 at *
  have H1' := Lib.hid (prods_ne P Q)
  have H2' := Lib.hid (prods_eq P Q)
  have hcm : -1 ≤ cmpI P.natAbs Q.natAbs ∧ cmpI P.natAbs Q.natAbs ≤ 1 := by rcases cmp_cases P.natAbs Q.natAbs with ⟨_, e⟩ | ⟨_, e⟩ | ⟨_, e⟩ <;> rw [e] <;> omega
  generalize cmpI P.natAbs Q.natAbs = k at *
  by_cases h : sg P = sg Q
  · have HE := Lib.hid (H2'.out h)
    have hmul : -1 ≤ sg Q * k ∧ sg Q * k ≤ 1 := by
      rcases sg_cases Q with ⟨_, e⟩ | ⟨_, e⟩ | ⟨_, e⟩ <;> rw [e] <;> omega
    rw [h] at K1 HE
    clear H1' H2' h hp
    generalize sg Q = s at *
    go_enter Tryd.func44, Tryd.ntmps44
    go_wp2_with fail
    refine (K1.out _).mono ?_
    rintro e w1 ⟨rfl, b1⟩
    have HX1 := Lib.hid (Box.new w1 #[.int .u64 H1, .int .u64 L1] 71)
    go_wp2_with fail
    refine (K2.out _).mono ?_
    rintro e w2 ⟨rfl, b2⟩
    obtain ⟨x0, x1, x2, x3⟩ := (Box.below HX1.out b2 (by simp)).two
    have n1 : w1.heap.size < w2.heap.size := by have := b2.size; simp at this; omega
    go_wp2_with fail
    refine (KC.out _).mono ?_
    rintro e w3 ⟨rfl, b3⟩
    go_wp2
    go_ret
    refine ⟨ret1i HE.out, ?_⟩
    have c2 := (b1.alloc b1.size (.cells #[.int .u64 H1, .int .u64 L1] 71)).trans (b2.mono (by have := b1.size; simp; omega))
    have c3 := c2.alloc c2.size (.cells #[.int .u64 H2, .int .u64 L2] 71)
    exact c3.trans (b3.mono c3.size)
  · have HE := Lib.hid (H1'.out h)
    have hne : (sg P != sg Q) = true := by simpa using h
    clear H1' H2' h
    generalize sg P = s at *
    generalize sg Q = t at *
    go_enter Tryd.func44, Tryd.ntmps44
    go_wp2_with fail
    refine (K1.out _).mono ?_
    rintro e w1 ⟨rfl, b1⟩
    go_wp2_with fail
    refine (K2.out _).mono ?_
    rintro e w2 ⟨rfl, b2⟩
    go_wp2_with fail
    refine (cmp_int s t _).mono ?_
    rintro e w3 ⟨rfl, rfl⟩
    go_wp2
    go_ret
    refine ⟨ret1i HE.out, ?_⟩
    have c2 := (b1.alloc b1.size (.cells #[.int .u64 H1, .int .u64 L1] 71)).trans (b2.mono (by have := b1.size; simp; omega))
    exact c2.alloc c2.size _
end Go.Proofs.YtbnpbflndnjmcaaDoor

/-! The contract of wide.isText. -/
namespace Go.Proofs.YtbnpbflndnjmcaaDoor
open Go.RowKit

def digB (c : UInt8) : Bool := decide (48 ≤ (c.toNat : Int) ∧ (c.toNat : Int) ≤ 57)
def isTextB (l : List UInt8) : Bool := !l.isEmpty && !(decide (1 < l.length) && l.head? == some 48) && l.all digB
theorem isText_bad {s : ByteArray} (k : Nat) (hk : k < s.size) (h : ¬ (48 ≤ (s[k].toNat : Int) ∧ (s[k].toNat : Int) ≤ 57)) : isTextB s.data.toList = false := by
  unfold isTextB
  have : s.data.toList.all digB = false := by
    rw [List.all_eq_false]
    refine ⟨s[k], ?_, ?_⟩
    · show s.data[k] ∈ s.data.toList
      simp
    · unfold digB; simpa using h
  rw [this, Bool.and_false]
theorem isText_zero {s : ByteArray} (h1 : 1 < s.size) (h : (s[0].toNat : Int) = 48) : isTextB s.data.toList = false := by
  have h2 : s.data.toList.head? = some 48 := by
    have e : s.data.toList.head? = some s[0] := by
      rw [List.head?_eq_getElem?, Array.getElem?_toList, Array.getElem?_eq_getElem (show 0 < s.data.size by have : s.size = s.data.size := rfl; omega)]
      rfl
    rw [e]
    congr 1
    exact UInt8.toNat_inj.1 (by show s[0].toNat = 48; omega)
  unfold isTextB
  rw [h2]
  have : decide (1 < s.data.toList.length) = true := by simpa using h1
  rw [this]; simp
theorem isText_good {s : ByteArray} (h0 : s.size ≠ 0) (hz : 1 < s.size → ∀ h : 0 < s.size, (s[0].toNat : Int) ≠ 48) (h : (s.data.toList.take s.size).all digB = true) : isTextB s.data.toList = true := by
  have hl : s.data.toList.length = s.size := by simp
  unfold isTextB
  rw [← hl, List.take_length] at h
  rw [h]
  have e1 : s.data.toList.isEmpty = false := by
    cases hd : s.data.toList with
    | nil => rw [hd] at hl; exact absurd hl.symm h0
    | cons a b => rfl
  rw [e1]
  have e2 : (decide (1 < s.data.toList.length) && s.data.toList.head? == some 48) = false := by
    by_cases h1 : 1 < s.size
    · have e : s.data.toList.head? = some s[0] := by
        rw [List.head?_eq_getElem?, Array.getElem?_toList, Array.getElem?_eq_getElem (show 0 < s.data.size by have : s.size = s.data.size := rfl; omega)]
        rfl
      rw [e]
      have := hz h1 (by omega)
      have : (some s[0] == some (48 : UInt8)) = false := by
        simp only [Option.some_beq_some, beq_eq_false_iff_ne]
        intro hc; rw [hc] at this; exact this rfl
      rw [this, Bool.and_false]
    · have : decide (1 < s.data.toList.length) = false := by rw [hl]; simpa using h1
      rw [this, Bool.false_and]
  rw [e2]; rfl
theorem digs_snoc (s : ByteArray) (k : Nat) (h : k < s.size) (ha : (s.data.toList.take k).all digB = true) (hd : 48 ≤ (s[k].toNat : Int) ∧ (s[k].toNat : Int) ≤ 57) : (s.data.toList.take (k + 1)).all digB = true := by
  rw [List.take_succ_eq_append_getElem (by simpa using h), List.all_append, ha]
  have : digB s[k] = true := by unfold digB; simpa using hd
  simp only [List.all_cons, List.all_nil, Bool.and_true, Bool.true_and]
  exact this

theorem retb {a b : Bool} (h : a = b) : Ending.returned (.bool a) = .returned (.bool b) := by rw [h]
set_option maxHeartbeats 1000000 in
theorem wide_isText (s : ByteArray) (hs : s.size ≤ maxLen) (w : World) :
    Calls Tryd.prog 94 #[.string s] w fun e w' => e = .returned (.bool (isTextB s.data.toList)) ∧ w = w' := by
  unfold maxLen at hs
  by_cases h0 : s.size = 0
  · have e0 : s.toList = [] := by
      rw [← List.length_eq_zero_iff, ByteArray.toList_eq]; simpa using h0
    have e1 : s.toList.isEmpty = true := by rw [e0]; rfl
    have HR : Hid (isTextB s.data.toList = false) := by
      show _ = _
      unfold isTextB
      rw [← ByteArray.toList_eq, e1]; rfl
    clear h0
    go_enter Tryd.func94, Tryd.ntmps94
    go_wp2
    go_ret
    exact ⟨retb HR.out.symm, rfl⟩
  · have e0 : ¬ s.toList = [] := by
      rw [← List.length_eq_zero_iff, ByteArray.toList_eq]; simpa using h0
    have e1 : s.toList.isEmpty = false := by
      cases h : s.toList with
      | nil => exact absurd h e0
      | cons a b => rfl
    by_cases hz : ∃ h1 : 1 < s.size, (s[0].toNat : Int) = 48
    · obtain ⟨h1, h2⟩ := hz
      have HR := Lib.hid (isText_zero h1 h2)
      have h3 : ((s[0].toNat : Int) == 48) = true := by simpa using h2
      clear h2
      go_enter Tryd.func94, Tryd.ntmps94
      go_wp2
      go_ret
      exact ⟨retb HR.out.symm, rfl⟩
    · have hz' : 1 < s.size → ∀ h : 0 < s.size, (s[0].toNat : Int) ≠ 48 := fun h1 h hc => hz ⟨h1, hc⟩
      have HG := Lib.hid (isText_good h0 hz')
      by_cases h1 : 1 < s.size
      all_goals
        have h3 : ∀ h : 0 < s.size, ((s[0].toNat : Int) == 48) = false ∨ ¬ 1 < s.size := fun h => by
          by_cases hh : 1 < s.size
          · left; simpa using hz' hh h
          · right; exact hh
        have h4 := h3 (by omega)
        simp only [h1, not_true_eq_false, not_false_eq_true, or_false, or_true] at h4
        clear h3 hz hz'
        go_enter Tryd.func94, Tryd.ntmps94
        go_wp2
        go_loop [18] (fun i => ∃ k : Nat, k ≤ s.size ∧ i = .int .i64 k ∧ Hid ((s.data.toList.take k).all digB = true)) (fun i => s.size - (intOf i).toNat)
        case atStart => exact ⟨0, Nat.zero_le _, rfl, rfl⟩
        case round =>
          obtain ⟨k, hk, rfl, hd⟩ := hrel
          by_cases hlt : k < s.size
          · by_cases hdig : 48 ≤ (s[k].toNat : Int) ∧ (s[k].toNat : Int) ≤ 57
            · have HD := Lib.hid (digs_snoc s k hlt hd.out hdig)
              obtain ⟨hd1, hd2⟩ := hdig
              go_wp2
              go_round
              case rel => exact ⟨k + 1, by omega, by go_num, HD⟩
              case measure => simp [intOf]; omega
            · have HR := Lib.hid (isText_bad k hlt hdig)
              by_cases h48 : (s[k].toNat : Int) < 48
              · clear hdig
                go_wp2
                go_ret
                exact ⟨retb HR.out.symm, rfl⟩
              · have h57 : 57 < (s[k].toNat : Int) := by omega
                clear hdig
                go_wp2
                go_ret
                exact ⟨retb HR.out.symm, rfl⟩
          · obtain rfl : k = s.size := by omega
            have HR := Lib.hid (HG.out hd.out)
            go_wp2
            go_ret
            exact ⟨retb HR.out.symm, rfl⟩
end Go.Proofs.YtbnpbflndnjmcaaDoor

/-! The contract of wide.shift: ten times a wide number, and a digit. -/
namespace Go.Proofs.YtbnpbflndnjmcaaDoor
open Go.RowKit

theorem add_at (ah al bh bl n : Int) (h1 : U64 ah) (h2 : U64 al) (h3 : U64 bh) (h4 : U64 bl) (e : wv ah al + wv bh bl = n) (w : World) :
    Calls Tryd.prog 105 #[.agg #[.int .u64 ah, .int .u64 al], .agg #[.int .u64 bh, .int .u64 bl]] w fun e w' => e = .returned (wfV n) ∧ Below w.heap.size w w' := by
  have h := wide_add ah al bh bl h1 h2 h3 h4 w
  rw [e] at h; exact h

/-- what is there in the middle of shift's products -/
def ShiftJ (B : Nat) (W : World) (h l : Int) (l0 l1 h0 h1 : Value) (f : Nat → Bool) (vs : List Value) (w : World) : Prop :=
  (Box w B #[.int .u64 h, .int .u64 l] 71 ∧ Box w (B + 1) #[.int .u64 0, .int .u64 0] 71 ∧ Below B W w) ∧
  (f 0 = true → vs.getD 0 undef = ptr B 1) ∧ (f 1 = true → vs.getD 1 undef = .int .u64 l) ∧ (f 2 = true → vs.getD 2 undef = .agg #[l0, l1]) ∧
  (f 3 = true → vs.getD 3 undef = ptr B 0) ∧ (f 4 = true → vs.getD 4 undef = .int .u64 h) ∧ (f 5 = true → vs.getD 5 undef = .agg #[h0, h1]) ∧
  (f 6 = true → ∃ g, vs.getD 6 undef = ptr g 0 ∧ B + 1 < g ∧ Box w g (if f 8 then #[l0, l1] else #[.int .u64 0, .int .u64 0]) 71) ∧
  (f 7 = true → ∃ g, vs.getD 7 undef = ptr g 0 ∧ B + 1 < g ∧ Box w g (if f 9 then #[h0, h1] else #[.int .u64 0, .int .u64 0]) 71) ∧
  (f 6 = true → f 7 = true → vs.getD 6 undef ≠ vs.getD 7 undef) ∧ (f 8 = true → f 6 = true) ∧ (f 9 = true → f 7 = true)
theorem ShiftJ.below {B : Nat} {W w w' : World} {h l : Int} {l0 l1 h0 h1 : Value} {f : Nat → Bool} {vs : List Value} (hj : ShiftJ B W h l l0 l1 h0 h1 f vs w) (hb : Below w.heap.size w w') (hB : B ≤ w.heap.size) : ShiftJ B W h l l0 l1 h0 h1 f vs w' := by
  obtain ⟨⟨x, x', b⟩, a0, a1, a2, a3, a4, a5, a6, a7, a67⟩ := hj
  refine ⟨⟨x.below hb x.lt, x'.below hb x'.lt, b.trans (hb.mono hB)⟩, a0, a1, a2, a3, a4, a5, fun h6 => ?_, fun h7 => ?_, a67⟩
  · obtain ⟨g, e, hg, hx⟩ := a6 h6
    exact ⟨g, e, hg, hx.below hb hx.lt⟩
  · obtain ⟨g, e, hg, hx⟩ := a7 h7
    exact ⟨g, e, hg, hx.below hb hx.lt⟩
theorem ShiftJ.alike {B : Nat} {W : World} {h l : Int} {l0 l1 h0 h1 : Value} (f g : Nat → Bool) (vs : List Value) (w : World) (hfg : ∀ k, k < 10 → f k = g k) (hj : ShiftJ B W h l l0 l1 h0 h1 f vs w) : ShiftJ B W h l l0 l1 h0 h1 g vs w := by
  unfold ShiftJ at *
  rw [← hfg 0 (by omega), ← hfg 1 (by omega), ← hfg 2 (by omega), ← hfg 3 (by omega), ← hfg 4 (by omega), ← hfg 5 (by omega), ← hfg 6 (by omega), ← hfg 7 (by omega), ← hfg 8 (by omega), ← hfg 9 (by omega)]
  exact hj

set_option maxHeartbeats 2000000 in
set_option maxRecDepth 100000 in
theorem wide_shift (h l d : Int) (hh : U64 h) (hl : U64 l) (hd : U64 d) (w : World) :
    Calls Tryd.prog 95 #[.agg #[.int .u64 h, .int .u64 l], .int .u64 d] w fun e w' => e = .returned (wfV (wv h l * 10 + d)) ∧ Below w.heap.size w w' := by
  have u10 : U64 10 := by unfold U64; omega
  have KL := Lib.hid (fun W => wide_mul l 10 hl u10 W)
  have KH := Lib.hid (fun W => wide_mul h 10 hh u10 W)
  have hn : Hid (0 ≤ wv h l * 10 ∧ wv h l * 10 = (h * 10 / 18446744073709551616) * 340282366920938463463374607431768211456 + (wv (l * 10 / 18446744073709551616) (l * 10 % 18446744073709551616) + wv (h * 10 % 18446744073709551616) 0)) := by
    show _ ∧ _
    unfold wv U64 at *; omega
  have g1 : U64 (l * 10 / 18446744073709551616) := by unfold U64 at *; omega
  have g2 := u64_of_mod (l * 10)
  have g3 := u64_of_mod (h * 10)
  have g5 : 0 ≤ h * 10 / 18446744073709551616 := by unfold U64 at *; omega
  generalize l * 10 / 18446744073709551616 = lH at *
  generalize l * 10 % 18446744073709551616 = lL at *
  generalize h * 10 / 18446744073709551616 = hH at *
  generalize h * 10 % 18446744073709551616 = hL at *
  generalize wv h l * 10 = n at *
  have hW := (((Below.refl w.heap.size w).alloc (Nat.le_refl _) (.cells #[.int .u64 h, .int .u64 l] 71)).alloc (by simp) (.cells #[.int .u64 0, .int .u64 0] 71)).drew
  have hX := ((Box.new w #[.int .u64 h, .int .u64 l] 71).alloc (.cells #[.int .u64 0, .int .u64 0] 71)).drew
  have hY := (Box.new (w.alloc (.cells #[.int .u64 h, .int .u64 l] 71)) #[.int .u64 0, .int .u64 0] 71).drew
  rw [alloc_size'] at hY
  have HWX := Lib.hid (And.intro hX (And.intro hY hW))
  clear hW hX hY
  go_enter Tryd.func95, Tryd.ntmps95
  go_wp2
  refine wp_region_steps (ShiftJ w.heap.size w h l (.int .u64 lH) (.int .u64 lL) (.int .u64 hH) (.int .u64 hL))
    [[], [0], [1], [], [3], [4, 2], [], [], [6, 2, 5, 0, 1, 2, 6, 7], [7, 5, 8, 0, 1, 2, 3, 4, 5, 6, 7, 8]] (by kernel_rfl) (by kernel_rfl) (by kernel_rfl) (by kernel_rfl) ?_ ?_ ?_ ?_
  · exact fun f g vs w => ShiftJ.alike f g vs w
  · intro vs _
    exact ⟨HWX.out, by simp, by simp, by simp, by simp, by simp, by simp, by simp, by simp, by simp, by simp, by simp⟩
  · refine ⟨?_, ?_, ?_, ?_, ?_, ?_, ?_, ?_, ?_, ?_, trivial⟩
    all_goals
      intro f vs w1 hlen hf hp hj K hK
      rw [if_pos (by rfl)]
      obtain ⟨y0, y1, y2, y3, y4, y5, y6, y7, y8, y9, rfl⟩ := len10 hlen
      clear hlen
      have HB : Hid (w.heap.size ≤ w1.heap.size) := Nat.le_of_lt hj.1.1.lt
      have HJ := Lib.hid hj
      simp only [putAll, Act.put, List.setIfInBounds_toArray, List.set_cons_zero, List.set_cons_succ] at hK ⊢
      clear hj
    -- 0
    · go_simp
      refine hK (ptr w.heap.size 1) w1 ?_
      simpa [ShiftJ, hf] using HJ.out
    -- 1
    · obtain rfl : y0 = ptr w.heap.size 1 := HJ.out.2.1 (hp 0 (by simp))
      obtain ⟨x0, x1, _, _⟩ := HJ.out.1.1.two
      go_simp
      refine hK (.int .u64 l) w1 ?_
      simpa [ShiftJ, hf] using HJ.out
    -- 2
    · obtain rfl : y1 = .int .u64 l := HJ.out.2.2.1 (hp 1 (by simp))
      clear hp
      go_wp2_with fail
      refine (KL.out _).mono ?_
      rintro e w2 ⟨rfl, b2⟩
      go_simp
      refine hK _ w2 ?_
      have := HJ.out.below b2 HB.out
      simpa [ShiftJ, hf] using this
    -- 3
    · go_simp
      refine hK (ptr w.heap.size 0) w1 ?_
      simpa [ShiftJ, hf] using HJ.out
    -- 4
    · obtain rfl : y3 = ptr w.heap.size 0 := HJ.out.2.2.2.2.1 (hp 3 (by simp))
      obtain ⟨x0, x1, _, _⟩ := HJ.out.1.1.two
      go_simp
      refine hK (.int .u64 h) w1 ?_
      simpa [ShiftJ, hf] using HJ.out
    -- 5
    · obtain rfl : y4 = .int .u64 h := HJ.out.2.2.2.2.2.1 (hp 4 (by simp))
      clear hp
      go_wp2_with fail
      refine (KH.out _).mono ?_
      rintro e w2 ⟨rfl, b2⟩
      go_simp
      refine hK _ w2 ?_
      have := HJ.out.below b2 HB.out
      simpa [ShiftJ, hf] using this
    -- 6
    · go_simp
      refine hK (ptr w1.heap.size 0) _ ?_
      obtain ⟨⟨x, x', b⟩, a0, a1, a2, a3, a4, a5, a6, a7, a67, a8, a9⟩ := HJ.out.below ((Below.refl w1.heap.size w1).alloc (Nat.le_refl _) (.cells #[.int .u64 0, .int .u64 0] 71)) HB.out
      have h8 : f 8 = false := by
        cases h : f 8 with
        | false => rfl
        | true => rw [a8 h] at hf; cases hf
      refine ⟨⟨x, x', b⟩, by simpa using a0, by simpa using a1, by simpa using a2, by simpa using a3, by simpa using a4, by simpa using a5, fun _ => ⟨w1.heap.size, by simp, HJ.out.1.2.1.lt, ?_⟩, by simpa using a7, ?_, by simp, by simpa using a9⟩
      · simpa [h8] using Box.new w1 #[.int .u64 0, .int .u64 0] 71
      · intro _ h7
        obtain ⟨g, e, hg, hx⟩ := HJ.out.2.2.2.2.2.2.2.2.1 (by simpa using h7)
        have hlt := hx.lt
        simp at e ⊢
        rw [e]
        simp
        try omega
    -- 7
    · go_simp
      refine hK (ptr w1.heap.size 0) _ ?_
      obtain ⟨⟨x, x', b⟩, a0, a1, a2, a3, a4, a5, a6, a7, a67, a8, a9⟩ := HJ.out.below ((Below.refl w1.heap.size w1).alloc (Nat.le_refl _) (.cells #[.int .u64 0, .int .u64 0] 71)) HB.out
      have h9 : f 9 = false := by
        cases h : f 9 with
        | false => rfl
        | true => rw [a9 h] at hf; cases hf
      refine ⟨⟨x, x', b⟩, by simpa using a0, by simpa using a1, by simpa using a2, by simpa using a3, by simpa using a4, by simpa using a5, by simpa using a6, fun _ => ⟨w1.heap.size, by simp, HJ.out.1.2.1.lt, ?_⟩, ?_, by simpa using a8, by simp⟩
      · simpa [h9] using Box.new w1 #[.int .u64 0, .int .u64 0] 71
      · intro h6 _
        obtain ⟨g, e, hg, hx⟩ := HJ.out.2.2.2.2.2.2.2.1 (by simpa using h6)
        have hlt := hx.lt
        simp at e ⊢
        rw [e]
        simp
        try omega
    -- 8
    · have f6 := hp 6 (by simp)
      have f7 := hp 7 (by simp)
      obtain rfl : y2 = .agg #[.int .u64 lH, .int .u64 lL] := HJ.out.2.2.2.1 (hp 2 (by simp))
      obtain ⟨g6, e6, l6, x6⟩ := HJ.out.2.2.2.2.2.2.2.1 f6
      obtain ⟨g7, e7, l7, x7⟩ := HJ.out.2.2.2.2.2.2.2.2.1 f7
      have hne : g6 ≠ g7 := by
        have := HJ.out.2.2.2.2.2.2.2.2.2.1 f6 f7
        rw [e6, e7] at this
        intro h; exact this (by rw [h])
      obtain rfl : y6 = ptr g6 0 := e6
      rw [hf] at x6
      simp only [Bool.false_eq_true, if_false] at x6
      obtain ⟨z0, z1, z2, z3⟩ := x6.two
      have X6 := Lib.hid x6
      have X7 := Lib.hid x7
      have E7 := Lib.hid e7
      clear x6 x7 e7 hp
      go_simp
      refine hK undef _ ?_
      obtain ⟨⟨x, x', b⟩, a0, a1, a2, a3, a4, a5, a6, a7, a67, a8, a9⟩ := HJ.out
      refine ⟨⟨x.off2 (by omega) _ _, x'.off2 (by omega) _ _, (b.setCell (p := ⟨g6, 0, none⟩) (by simp; omega) _).setCell (p := ⟨g6, 1, none⟩) (by simp; omega) _⟩, by simpa using a0, by simpa using a1, by simp, by simpa using a3, by simpa using a4, by simpa using a5, fun _ => ⟨g6, by simp, l6, ?_⟩, fun _ => ⟨g7, by simpa using E7.out, l7, ?_⟩, by simpa using a67, fun _ => f6, by simpa using a9⟩
      · simpa using X6.out.set2 (.int .u64 lH) (.int .u64 lL)
      · simpa using X7.out.off2 hne (.int .u64 lH) (.int .u64 lL)
    -- 9
    · have f6 := hp 6 (by simp)
      have f7 := hp 7 (by simp)
      have f8 := hp 8 (by simp)
      obtain rfl : y5 = .agg #[.int .u64 hH, .int .u64 hL] := HJ.out.2.2.2.2.2.2.1 (hp 5 (by simp))
      obtain ⟨g6, e6, l6, x6⟩ := HJ.out.2.2.2.2.2.2.2.1 f6
      obtain ⟨g7, e7, l7, x7⟩ := HJ.out.2.2.2.2.2.2.2.2.1 f7
      have hne : g6 ≠ g7 := by
        have := HJ.out.2.2.2.2.2.2.2.2.2.1 f6 f7
        rw [e6, e7] at this
        intro h; exact this (by rw [h])
      obtain rfl : y7 = ptr g7 0 := e7
      rw [hf] at x7
      simp only [Bool.false_eq_true, if_false] at x7
      obtain ⟨z0, z1, z2, z3⟩ := x7.two
      have X6 := Lib.hid x6
      have X7 := Lib.hid x7
      have E6 := Lib.hid e6
      clear x6 x7 e6 hp
      go_simp
      refine hK undef _ ?_
      obtain ⟨⟨x, x', b⟩, a0, a1, a2, a3, a4, a5, a6, a7, a67, a8, a9⟩ := HJ.out
      refine ⟨⟨x.off2 (by omega) _ _, x'.off2 (by omega) _ _, (b.setCell (p := ⟨g7, 0, none⟩) (by simp; omega) _).setCell (p := ⟨g7, 1, none⟩) (by simp; omega) _⟩, by simpa using a0, by simpa using a1, by simpa using a2, by simpa using a3, by simpa using a4, by simp, fun _ => ⟨g6, by simpa using E6.out, l6, ?_⟩, fun _ => ⟨g7, by simp, l7, ?_⟩, by simpa using a67, fun _ => f6, fun _ => f7⟩
      · have := X6.out.off2 (Ne.symm hne) (.int .u64 hH) (.int .u64 hL)
        rw [f8] at this
        simpa [f8] using this
      · simpa using X7.out.set2 (.int .u64 hH) (.int .u64 hL)
  · intro vs w1 hlen hj
    obtain ⟨y0, y1, y2, y3, y4, y5, y6, y7, y8, y9, rfl⟩ := len10 hlen
    clear hlen
    obtain ⟨⟨x, x', b⟩, a0, a1, a2, a3, a4, a5, a6, a7, a67, -, -⟩ := hj
    obtain rfl : y0 = _ := a0 rfl
    obtain rfl : y1 = _ := a1 rfl
    obtain rfl : y2 = _ := a2 rfl
    obtain rfl : y3 = _ := a3 rfl
    obtain rfl : y4 = _ := a4 rfl
    obtain rfl : y5 = _ := a5 rfl
    obtain ⟨g6, e6, l6, x6⟩ := a6 rfl
    obtain ⟨g7, e7, l7, x7⟩ := a7 rfl
    obtain rfl : y6 = _ := e6
    obtain rfl : y7 = _ := e7
    simp only [if_true] at x6 x7
    have t6 := x6.lt
    have t7 := x7.lt
    obtain ⟨u0, u1, _, _⟩ := x6.two
    obtain ⟨v0, v1, _, _⟩ := x7.two
    obtain ⟨r0, r1, r2, r3⟩ := x'.two
    have X' := Lib.hid x'
    have HB := Lib.hid b
    clear a0 a1 a2 a3 a4 a5 a6 a7 a67 x x' b x6 x7
    simp only [putAll, Act.put, List.setIfInBounds_toArray, List.set_cons_zero, List.set_cons_succ]
    by_cases hz : hH = 0
    · subst hz
      by_cases hlt : n < 340282366920938463463374607431768211456
      · have KA : Hid (∀ W, Calls Tryd.prog 105 #[.agg #[.int .u64 lH, .int .u64 lL], .agg #[.int .u64 hL, .int .u64 0]] W fun e w' => e = .returned (.tuple #[.agg #[.int .u64 (n / 18446744073709551616), .int .u64 (n % 18446744073709551616)], .int .i64 0]) ∧ Below W.heap.size W w') := by
          intro W
          have h := add_at lH lL hL 0 n g1 g2 g3 (by unfold U64; omega) (by have := hn.out.2; omega) W
          rw [wfV_in ⟨hn.out.1, hlt⟩ rfl rfl]
          exact h
        have KB : Hid (∀ W, Calls Tryd.prog 105 #[.agg #[.int .u64 (n / 18446744073709551616), .int .u64 (n % 18446744073709551616)], .agg #[.int .u64 0, .int .u64 d]] W fun e w' => e = .returned (wfV (n + d)) ∧ Below W.heap.size W w') := by
          intro W
          exact add_at _ _ _ _ _ (by have := hn.out.1; unfold U64; omega) (u64_of_mod n) (by unfold U64; omega) hd (by unfold wv; omega) W
        clear hn hlt
        generalize n / 18446744073709551616 = nH at *
        generalize n % 18446744073709551616 = nL at *
        go_wp2_with fail
        refine (KA.out _).mono ?_
        rintro e w2 ⟨rfl, b2⟩
        have X2 := Lib.hid (X'.out.below b2 X'.out.lt)
        have B2 := Lib.hid (HB.out.trans (b2.mono (Nat.le_of_lt (Nat.lt_of_succ_lt X'.out.lt))))
        have z2 : w.heap.size + 1 < w2.heap.size := X2.out.lt
        clear u0 u1 v0 v1 r0 r1 r2 r3 b2
        go_wp2
        have X8 := Lib.hid (Box.new w2 #[.int .u64 nH, .int .u64 nL] 71).drew
        have X3 := Lib.hid (X2.out.alloc (.cells #[.int .u64 nH, .int .u64 nL] 71)).drew
        have B3 := Lib.hid (B2.out.alloc (by omega) (.cells #[.int .u64 nH, .int .u64 nL] 71)).drew
        obtain ⟨p0, p1, _, _⟩ := X8.out.two
        obtain ⟨r0, r1, r2, r3⟩ := X3.out.two
        have z3 : w2.heap.size < (w2.alloc (.cells #[.int .u64 nH, .int .u64 nL] 71)).drew.heap.size := by simp
        go_region_held3 (fun w1 => w1.cell? ⟨w2.heap.size, 0, none⟩ = some (.int .u64 nH) ∧ w1.cell? ⟨w2.heap.size, 1, none⟩ = some (.int .u64 nL)) (first | exact keep_off1 (by omega) (by assumption) | go_keep)
          (first
            | (go_at_call 86; ((with_reducible refine (wide_of d _).mono ?_); rintro e w4 ⟨rfl, b4⟩; have X4 := Lib.hid (X3.out.below b4 X3.out.lt); have Y4 := Lib.hid (X8.out.below b4 X8.out.lt); obtain ⟨p0, p1, _, _⟩ := Y4.out.two; have B4 := B3.out.trans (b4.mono (by omega))))
            | (go_at_call 105; ((with_reducible refine (KB.out _).mono ?_); rintro e w5 ⟨rfl, b5⟩; have X5 := Lib.hid (X4.out.below b5 X4.out.lt); have Y5 := Lib.hid (Y4.out.below b5 Y4.out.lt); obtain ⟨p0, p1, _, _⟩ := Y5.out.two; obtain ⟨r0, r1, r2, r3⟩ := X5.out.two; have B5 := B4.trans (b5.mono (by have := X4.out.lt; omega)))))
        all_goals
          go_wp2
          have Z := X5.out.set2 (.int .u64 (wfH (n + d))) (.int .u64 (wfL (n + d)))
          obtain ⟨k0, k1, _, _⟩ := Z.two
          refine bodyPost_ret (v := wfV (n + d)) ?_ rfl ⟨rfl, ?_⟩
          · simp [results, Tryd.results95, go_sem, k0, k1]
          · exact (B5.setCell (p := ⟨w.heap.size + 1, 0, none⟩) (by simp) _).setCell (p := ⟨w.heap.size + 1, 1, none⟩) (by simp) _
      · have KA : Hid (∀ W, Calls Tryd.prog 105 #[.agg #[.int .u64 lH, .int .u64 lL], .agg #[.int .u64 hL, .int .u64 0]] W fun e w' => e = .returned (.tuple #[.agg #[.int .u64 0, .int .u64 0], .int .i64 10]) ∧ Below W.heap.size W w') := by
          intro W
          have h := add_at lH lL hL 0 n g1 g2 g3 (by unfold U64; omega) (by have := hn.out.2; omega) W
          rw [wfV_out (n := n) (by omega)]
          exact h
        go_wp2_with fail
        refine (KA.out _).mono ?_
        rintro e w2 ⟨rfl, b2⟩
        have X2 := Lib.hid ((X'.out.below b2 X'.out.lt).alloc (.cells #[.int .u64 0, .int .u64 0] 71))
        have B2 := Lib.hid (HB.out.trans (b2.mono (Nat.le_of_lt (Nat.lt_of_succ_lt X'.out.lt))))
        have s2 := b2.size
        obtain ⟨r0, r1, r2, r3⟩ := (X'.out.below b2 X'.out.lt).two
        have z2 : w.heap.size + 1 < w2.heap.size := (X'.out.below b2 X'.out.lt).lt
        have Y2 := Lib.hid (X'.out.below b2 X'.out.lt)
        clear u0 u1 v0 v1 b2
        go_wp2
        have Z := (Y2.out.set2 (.int .u64 0) (.int .u64 0)).alloc (.cells #[.int .u64 0, .int .u64 0] 71)
        obtain ⟨k0, k1, _, _⟩ := Z.two
        refine bodyPost_ret (v := .tuple #[.agg #[.int .u64 0, .int .u64 0], .int .i64 10]) ?_ rfl ⟨?_, ?_⟩
        · simp [results, Tryd.results95, go_sem, k0, k1]
        · exact wfV_out (by have := hn.out; unfold U64 at *; omega)
        · exact ((B2.out.setCell (p := ⟨w.heap.size + 1, 0, none⟩) (by simp) (.int .u64 0)).setCell (p := ⟨w.heap.size + 1, 1, none⟩) (by simp) (.int .u64 0)).alloc (by simp; omega) _
    · have hzb : (hH != 0) = true := by simpa using hz
      have HZ := Lib.hid hz
      clear hz
      go_wp2
      have Z := X'.out.set2 (.int .u64 0) (.int .u64 0)
      obtain ⟨k0, k1, _, _⟩ := Z.two
      refine bodyPost_ret (v := .tuple #[.agg #[.int .u64 0, .int .u64 0], .int .i64 10]) ?_ rfl ⟨?_, ?_⟩
      · simp [results, Tryd.results95, go_sem, k0, k1]
      · exact wfV_out (by have := hn.out; have := HZ.out; unfold wv U64 at *; omega)
      · exact (HB.out.setCell (p := ⟨w.heap.size + 1, 0, none⟩) (by simp) (.int .u64 0)).setCell (p := ⟨w.heap.size + 1, 1, none⟩) (by simp) (.int .u64 0)
end Go.Proofs.YtbnpbflndnjmcaaDoor

/-! The contract of wide.Parse. -/
namespace Go.Proofs.YtbnpbflndnjmcaaDoor
open Go.RowKit

/-- the number that digits say -/
def dec (l : List UInt8) : Int := l.foldl (fun a c => a * 10 + ((c.toNat : Int) - 48)) 0
theorem dec_append (l : List UInt8) (c : UInt8) : dec (l ++ [c]) = dec l * 10 + ((c.toNat : Int) - 48) := by
  unfold dec; rw [List.foldl_append]; rfl
theorem dec_take (s : ByteArray) (k : Nat) (h : k < s.size) : dec (s.data.toList.take (k + 1)) = dec (s.data.toList.take k) * 10 + ((s[k].toNat : Int) - 48) := by
  rw [List.take_succ_eq_append_getElem (by simpa using h), dec_append]; rfl
theorem digB_bd {c : UInt8} (h : digB c = true) : 48 ≤ (c.toNat : Int) ∧ (c.toNat : Int) ≤ 57 := by
  unfold digB at h; exact of_decide_eq_true h
theorem digB_at {s : ByteArray} (h : s.data.toList.all digB = true) (k : Nat) (hk : k < s.size) : 48 ≤ (s[k].toNat : Int) ∧ (s[k].toNat : Int) ≤ 57 := by
  rw [List.all_eq_true] at h
  exact digB_bd (h s[k] (by show s.data[k] ∈ s.data.toList; simp))
theorem dec_nonneg (s : ByteArray) (h : s.data.toList.all digB = true) (k : Nat) (hk : k ≤ s.size) : 0 ≤ dec (s.data.toList.take k) := by
  induction k with
  | zero => rw [List.take_zero]; exact Int.le_refl 0
  | succ k ih =>
    have := ih (by omega)
    have hd := digB_at h k (by omega)
    rw [dec_take s k (by omega)]; omega
theorem dec_mono (s : ByteArray) (h : s.data.toList.all digB = true) (k n : Nat) (hk : k + n ≤ s.size) : dec (s.data.toList.take k) ≤ dec (s.data.toList.take (k + n)) := by
  induction n with
  | zero => exact Int.le_refl _
  | succ n ih =>
    have h1 := ih (by omega)
    have h2 := dec_nonneg s h (k + n) (by omega)
    have hd := digB_at h (k + n) (by omega)
    rw [show k + (n + 1) = k + n + 1 by omega, dec_take s (k + n) (by omega)]; omega
theorem isText_all {l : List UInt8} (h : isTextB l = true) : l.all digB = true := by
  unfold isTextB at h
  simp only [Bool.and_eq_true] at h
  exact h.2

def psH (l : List UInt8) : Int := if isTextB l = true ∧ l.length ≤ 39 then wfH (dec l) else 0
def psL (l : List UInt8) : Int := if isTextB l = true ∧ l.length ≤ 39 then wfL (dec l) else 0
def psE (l : List UInt8) : Int := if isTextB l = true then (if l.length ≤ 39 then wfE (dec l) else 10) else 20
abbrev psV (l : List UInt8) : Value := .tuple #[.agg #[.int .u64 (psH l), .int .u64 (psL l)], .int .i64 (psE l)]
theorem psV_no {l : List UInt8} (h : isTextB l = false) : Ending.returned (.tuple #[.agg #[.int .u64 0, .int .u64 0], .int .i64 20]) = .returned (psV l) := by
  unfold psV psH psL psE
  rw [h]; rfl
theorem psV_long {l : List UInt8} (h : isTextB l = true) (hl : 39 < l.length) : Ending.returned (.tuple #[.agg #[.int .u64 0, .int .u64 0], .int .i64 10]) = .returned (psV l) := by
  unfold psV psH psL psE
  rw [if_neg (by omega), if_neg (by omega), if_pos h, if_neg (by omega)]
theorem psV_in {l : List UInt8} (h : isTextB l = true) (hl : l.length ≤ 39) : psV l = wfV (dec l) := by
  unfold psV psH psL psE
  rw [if_pos ⟨h, hl⟩, if_pos ⟨h, hl⟩, if_pos h, if_pos hl]

theorem shift_in (h l d n : Int) (hh : U64 h) (hl : U64 l) (hd : 0 ≤ d ∧ d ≤ 9) (e : wv h l * 10 + d = n) (hn : 0 ≤ n ∧ n < 340282366920938463463374607431768211456) (w : World) :
    Calls Tryd.prog 95 #[.agg #[.int .u64 h, .int .u64 l], .int .u64 d] w fun e w' => e = .returned (.tuple #[.agg #[.int .u64 (n / 18446744073709551616), .int .u64 (n % 18446744073709551616)], .int .i64 0]) ∧ Below w.heap.size w w' := by
  have h := wide_shift h l d hh hl (by unfold U64; omega) w
  rw [e] at h
  rw [wfV_in hn rfl rfl]; exact h
theorem shift_out (h l d n : Int) (hh : U64 h) (hl : U64 l) (hd : 0 ≤ d ∧ d ≤ 9) (e : wv h l * 10 + d = n) (hn : 340282366920938463463374607431768211456 ≤ n) (w : World) :
    Calls Tryd.prog 95 #[.agg #[.int .u64 h, .int .u64 l], .int .u64 d] w fun e w' => e = .returned (.tuple #[.agg #[.int .u64 0, .int .u64 0], .int .i64 10]) ∧ Below w.heap.size w w' := by
  have h := wide_shift h l d hh hl (by unfold U64; omega) w
  rw [e] at h
  rw [wfV_out (n := n) (by omega)]; exact h

set_option maxHeartbeats 2000000 in
theorem wide_parse (s : ByteArray) (hs : s.size ≤ maxLen) (w : World) :
    Calls Tryd.prog 85 #[.string s] w fun e w' => e = .returned (psV s.data.toList) ∧ Below w.heap.size w w' := by
  have KT := Lib.hid (fun W => wide_isText s hs W)
  have HL : Hid (s.data.toList.length = s.size) := by show _ = _; simp
  unfold maxLen at hs
  have hX := Box.new w #[.int .u64 0, .int .u64 0] 71
  have hW := (Below.refl w.heap.size w).alloc (Nat.le_refl _) (.cells #[.int .u64 0, .int .u64 0] 71)
  obtain ⟨x0, x1, x2, x3⟩ := hX.two
  have HX := Lib.hid hX
  have HW := Lib.hid hW
  clear hX hW
  cases hT : isTextB s.data.toList with
  | false =>
    have HR := Lib.hid (psV_no hT)
    rw [hT] at KT
    clear hT
    go_enter Tryd.func85, Tryd.ntmps85
    go_wp2_with fail
    refine (KT.out _).mono ?_
    rintro e w1 ⟨rfl, rfl⟩
    go_wp2
    refine bodyPost_ret (v := .tuple #[.agg #[.int .u64 0, .int .u64 0], .int .i64 20]) ?_ rfl ⟨HR.out, HW.out⟩
    simp [results, Tryd.results85, go_sem, x0, x1]
  | true =>
    rw [hT] at KT
    by_cases h39 : 39 < s.size
    · have HR := Lib.hid (psV_long hT (by rw [HL.out]; exact h39))
      clear hT
      go_enter Tryd.func85, Tryd.ntmps85
      go_wp2_with fail
      refine (KT.out _).mono ?_
      rintro e w1 ⟨rfl, rfl⟩
      go_wp2
      refine bodyPost_ret (v := .tuple #[.agg #[.int .u64 0, .int .u64 0], .int .i64 10]) ?_ rfl ⟨HR.out, HW.out⟩
      simp [results, Tryd.results85, go_sem, x0, x1]
    · have HV := Lib.hid (psV_in hT (by rw [HL.out]; omega))
      have HA := Lib.hid (isText_all hT)
      clear hT
      go_enter Tryd.func85, Tryd.ntmps85
      go_wp2_with fail
      refine (KT.out _).mono ?_
      rintro e w1 ⟨rfl, rfl⟩
      go_wp2
      clear x0 x1 x2 x3
      go_loopw [17] (fun i wr => ∃ (k : Nat) (h l : Int), k ≤ s.size ∧ i = .int .i64 k ∧ U64 h ∧ U64 l ∧ Hid (wv h l = dec (s.data.toList.take k)) ∧ Box wr w.heap.size #[.int .u64 0, .int .u64 0] 71 ∧ Box wr (w.heap.size + 1) #[.int .u64 h, .int .u64 l] 71 ∧ Below w.heap.size w wr) (fun i _ => s.size - (intOf i).toNat)
      case atStart =>
        refine ⟨0, 0, 0, Nat.zero_le _, rfl, by unfold U64; omega, by unfold U64; omega, rfl, HX.out.alloc _, ?_, HW.out.alloc (by simp) _⟩
        have := Box.new (w.alloc (.cells #[.int .u64 0, .int .u64 0] 71)) #[.int .u64 0, .int .u64 0] 71
        rw [alloc_size'] at this
        exact this
      case round =>
        obtain ⟨k, h, l, hk, rfl, uh, ul, hv, hR, hB, hb⟩ := hrel
        obtain ⟨x0, x1, x2, x3⟩ := hB.two
        obtain ⟨y0, y1, y2, y3⟩ := hR.two
        have XB := Lib.hid hB
        have XR := Lib.hid hR
        have XW := Lib.hid hb
        clear hR hB hb
        by_cases hlt : k < s.size
        · have hdig := digB_at HA.out k hlt
          have e1 : IntKind.u8.wrap ((s[k].toNat : Int) - 48) = (s[k].toNat : Int) - 48 := by unfold IntKind.wrap; simp [IntKind.signed, IntKind.bits]; omega
          have e2 : IntKind.u64.wrap ((s[k].toNat : Int) - 48) = (s[k].toNat : Int) - 48 := by unfold IntKind.wrap; simp [IntKind.signed, IntKind.bits]; omega
          have hN := dec_nonneg s HA.out (k + 1) (by omega)
          have HE : Hid (wv h l * 10 + ((s[k].toNat : Int) - 48) = dec (s.data.toList.take (k + 1))) := by show _ = _; rw [hv.out, dec_take s k hlt]
          by_cases hn : dec (s.data.toList.take (k + 1)) < 340282366920938463463374607431768211456
          · have HU : Hid (U64 (dec (s.data.toList.take (k + 1)) / 18446744073709551616) ∧ U64 (dec (s.data.toList.take (k + 1)) % 18446744073709551616) ∧ True) := ⟨by unfold U64; omega, by unfold U64; omega, trivial⟩
            have KS := Lib.hid (fun W => shift_in h l ((s[k].toNat : Int) - 48) _ uh ul (by omega) HE.out ⟨hN, hn⟩ W)
            clear hdig hN hn hv
            have UH : U64 (dec (s.data.toList.take (k + 1)) / 18446744073709551616) := HU.out.1
            have UL : U64 (dec (s.data.toList.take (k + 1)) % 18446744073709551616) := HU.out.2.1
            generalize hnH : dec (s.data.toList.take (k + 1)) / 18446744073709551616 = nH at *
            generalize hnL : dec (s.data.toList.take (k + 1)) % 18446744073709551616 = nL at *
            have HNN : Hid (wv nH nL = dec (s.data.toList.take (k + 1))) := by show wv _ _ = _; rw [← hnH, ← hnL]; exact wv_split _
            clear hnH hnL HU
            go_wp2
            go_region_with (go_at_call 95; ((with_reducible refine (KS.out _).mono ?_); rintro e w2 ⟨rfl, b2⟩; have XB2 := Lib.hid (XB.out.drew.below b2 XB.out.drew.lt); have XR2 := Lib.hid (XR.out.drew.below b2 XR.out.drew.lt); obtain ⟨z0, z1, z2, z3⟩ := XB2.out.two; have XW2 := Lib.hid (XW.out.drew.trans (b2.mono (Nat.le_of_lt XR.out.drew.lt)))))
            all_goals
              go_wp2
              go_roundw
              case rel => exact ⟨k + 1, nH, nL, by omega, by go_num, UH, UL, HNN, XR2.out.off2 (by omega) _ _, XB2.out.set2 _ _, (XW2.out.setCell (p := ⟨w.heap.size + 1, 0, none⟩) (by simp) _).setCell (p := ⟨w.heap.size + 1, 1, none⟩) (by simp) _⟩
              case measure => simp [intOf]; omega
          · have KS := Lib.hid (fun W => shift_out h l ((s[k].toNat : Int) - 48) _ uh ul (by omega) HE.out (by omega) W)
            have HR : Hid (wfV (dec s.data.toList) = .tuple #[.agg #[.int .u64 0, .int .u64 0], .int .i64 10]) := by
              have h1 := dec_mono s HA.out (k + 1) (s.size - (k + 1)) (by omega)
              rw [show k + 1 + (s.size - (k + 1)) = s.size by omega, ← HL.out, List.take_length] at h1
              have := wfV_out (n := dec s.data.toList) (by omega)
              exact (Ending.returned.inj this).symm
            clear hdig hN hn hv
            go_wp2
            go_region_with (go_at_call 95; ((with_reducible refine (KS.out _).mono ?_); rintro e w2 ⟨rfl, b2⟩; have XB2 := Lib.hid (XB.out.drew.below b2 XB.out.drew.lt); have XR2 := Lib.hid (XR.out.drew.below b2 XR.out.drew.lt); obtain ⟨z0, z1, z2, z3⟩ := XB2.out.two; obtain ⟨v0, v1, v2, v3⟩ := XR2.out.two; have XW2 := Lib.hid (XW.out.drew.trans (b2.mono (Nat.le_of_lt XR.out.drew.lt)))))
            all_goals
              go_wp2
              have Z := (XR2.out.off2 (k := w.heap.size + 1) (by omega) (.int .u64 0) (.int .u64 0)).set2 (.int .u64 0) (.int .u64 0)
              obtain ⟨k0, k1, _, _⟩ := Z.two
              refine bodyPost_ret (v := .tuple #[.agg #[.int .u64 0, .int .u64 0], .int .i64 10]) ?_ rfl ⟨?_, ?_⟩
              · simp [results, Tryd.results85, go_sem, k0, k1]
              · rw [HV.out, HR.out]
              · exact (((XW2.out.setCell (p := ⟨w.heap.size + 1, 0, none⟩) (by simp) _).setCell (p := ⟨w.heap.size + 1, 1, none⟩) (by simp) _).setCell (p := ⟨w.heap.size, 0, none⟩) (by simp) _).setCell (p := ⟨w.heap.size, 1, none⟩) (by simp) _
        · obtain rfl : k = s.size := by omega
          have HN : Hid (wv h l = dec s.data.toList) := by show _ = _; rw [hv.out, ← HL.out, List.take_length]
          have HR : Hid (Ending.returned (.tuple #[.agg #[.int .u64 h, .int .u64 l], .int .i64 0]) = .returned (psV s.data.toList)) := by
            show _ = _
            rw [HV.out]
            refine wfV_in ?_ ?_ ?_
            all_goals
              rw [← HN.out]
              unfold wv U64 at *
              omega
          clear hv
          go_wp2
          have Z := XR.out.set2 (.int .u64 h) (.int .u64 l)
          obtain ⟨k0, k1, _, _⟩ := Z.two
          refine bodyPost_ret (v := .tuple #[.agg #[.int .u64 h, .int .u64 l], .int .i64 0]) ?_ rfl ⟨HR.out, ?_⟩
          · simp [results, Tryd.results85, go_sem, k0, k1]
          · exact (XW.out.setCell (p := ⟨w.heap.size, 0, none⟩) (by simp) _).setCell (p := ⟨w.heap.size, 1, none⟩) (by simp) _
end Go.Proofs.YtbnpbflndnjmcaaDoor
