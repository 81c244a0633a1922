/- WideW WideC WideI WideS WideJ -/
import Derived.Test.YtaeodkpkgbjaeaaBase
import Derived.Deep.RegionHeld3
import Derived.Deep.RegionWith
import Derived.Test.YtaeodkpkgbjaeaaBigs
import Derived.IntWalk
import Derived.Outline

/-! Contracts of package wide: Of, Mul, Add, Sub, and of cmp.Compare, cmp.Or. -/
namespace Go.Proofs.Ytaeodkpkgbjaeaa
open Go.RowKit

/-- a wide number, or nought if there is none, and whether there is -/
def wfH (n : Int) : Int := if 0 ≤ n ∧ n < 340282366920938463463374607431768211456 then n / 18446744073709551616 else 0
def wfL (n : Int) : Int := if 0 ≤ n ∧ n < 340282366920938463463374607431768211456 then n % 18446744073709551616 else 0
def wfE (n : Int) : Int := if 0 ≤ n ∧ n < 340282366920938463463374607431768211456 then 0 else 10
abbrev wfV (n : Int) : Value := .tuple #[.agg #[.int .u64 (wfH n), .int .u64 (wfL n)], .int .i64 (wfE n)]
/-- what two words say -/
def wv (h l : Int) : Int := h * 18446744073709551616 + l
theorem wfV_in {n h l : Int} (hn : 0 ≤ n ∧ n < 340282366920938463463374607431768211456) (e : h = n / 18446744073709551616) (f : l = n % 18446744073709551616) :
    Ending.returned (.tuple #[.agg #[.int .u64 h, .int .u64 l], .int .i64 0]) = .returned (wfV n) := by
  unfold wfV wfH wfL wfE; rw [if_pos hn, if_pos hn, if_pos hn, e, f]
theorem wfV_out {n : Int} (hn : ¬ (0 ≤ n ∧ n < 340282366920938463463374607431768211456)) :
    Ending.returned (.tuple #[.agg #[.int .u64 0, .int .u64 0], .int .i64 10]) = .returned (wfV n) := by
  unfold wfV wfH wfL wfE; rw [if_neg hn, if_neg hn, if_neg hn]

theorem wide_mul (a b : Int) (ha : U64 a) (hb : U64 b) (w : World) :
    Calls Try.prog 252 #[.int .u64 a, .int .u64 b] w fun e w' => e = .returned (.agg #[.int .u64 (a * b / 18446744073709551616), .int .u64 (a * b % 18446744073709551616)]) ∧ Below w.heap.size w w' := by
  go_enter Try.func252, Try.ntmps252
  go_wp2_with (go_at_call 264; refine (word_mul _ _ (by assumption) (by assumption) _).mono ?_; rintro e w' ⟨rfl, rfl⟩)
  refine bodyPost_ret (v := .agg #[.int .u64 (a * b / 18446744073709551616), .int .u64 (a * b % 18446744073709551616)]) (by simp [results, Try.results252, go_sem]) rfl ⟨rfl, ?_⟩
  exact (Below.refl _ _).alloc (Nat.le_refl _) _

end Go.Proofs.Ytaeodkpkgbjaeaa

/-! Contracts of cmp.Compare and cmp.Or as wide calls them, of wide.Cmp, product and Prods. -/
namespace Go.Proofs.Ytaeodkpkgbjaeaa
open Go.RowKit

theorem cmp_u64 (a b : Int) (w : World) :
    Calls Try.prog 255 #[.int .u64 a, .int .u64 b] w fun e w' => e = .returned (.int .i64 (cmpI a b)) ∧ w = w' := by
  have h1 : (a != a) = false := by simp
  have h2 : (b != b) = false := by simp
  rcases Int.lt_trichotomy a b with h | h | h
  · have HC : Hid (cmpI a b = -1) := by show _ = _; unfold cmpI; rw [if_pos h]
    go_enter Try.func255, Try.ntmps255
    go_wp2
    go_ret
    exact ⟨ret1i HC.out.symm, rfl⟩
  · have HC : Hid (cmpI a b = 0) := by show _ = _; unfold cmpI; rw [if_neg (by omega), if_pos h]
    subst h
    go_enter Try.func255, Try.ntmps255
    go_wp2
    go_ret
    exact ⟨ret1i HC.out.symm, rfl⟩
  · have HC : Hid (cmpI a b = 1) := by show _ = _; unfold cmpI; rw [if_neg (by omega), if_neg (by omega)]
    have h3 : ¬ a < b := by omega
    go_enter Try.func255, Try.ntmps255
    go_wp2
    go_ret
    exact ⟨ret1i HC.out.symm, rfl⟩
theorem cmp_int (a b : Int) (w : World) :
    Calls Try.prog 227 #[.int .i64 a, .int .i64 b] w fun e w' => e = .returned (.int .i64 (cmpI a b)) ∧ w = w' := by
  have h1 : (a != a) = false := by simp
  have h2 : (b != b) = false := by simp
  rcases Int.lt_trichotomy a b with h | h | h
  · have HC : Hid (cmpI a b = -1) := by show _ = _; unfold cmpI; rw [if_pos h]
    go_enter Try.func227, Try.ntmps227
    go_wp2
    go_ret
    exact ⟨ret1i HC.out.symm, rfl⟩
  · have HC : Hid (cmpI a b = 0) := by show _ = _; unfold cmpI; rw [if_neg (by omega), if_pos h]
    subst h
    go_enter Try.func227, Try.ntmps227
    go_wp2
    go_ret
    exact ⟨ret1i HC.out.symm, rfl⟩
  · have HC : Hid (cmpI a b = 1) := by show _ = _; unfold cmpI; rw [if_neg (by omega), if_neg (by omega)]
    have h3 : ¬ a < b := by omega
    go_enter Try.func227, Try.ntmps227
    go_wp2
    go_ret
    exact ⟨ret1i HC.out.symm, rfl⟩

/-- the first of two that is not 0 -/
def or2 (x y : Int) : Int := if x ≠ 0 then x else y
theorem cmp_or (g : Nat) (x y : Int) (w : World) (h0 : w.cell? ⟨g, 0, none⟩ = some (.int .i64 x)) (h1 : w.cell? ⟨g, 1, none⟩ = some (.int .i64 y)) :
    Calls Try.prog 254 #[.slice (some ⟨g, 0, none⟩) 2 2] w fun e w' => e = .returned (.int .i64 (or2 x y)) ∧ w = w' := by
  by_cases hx : x = 0
  · have hxb : (x != 0) = false := by simpa using hx
    have HO : Hid (or2 x y = y) := by show _ = _; unfold or2; rw [if_neg (by simpa using hx)]
    clear hx
    by_cases hy : y = 0
    · have hyb : (y != 0) = false := by simpa using hy
      have HY := Lib.hid hy
      clear hy
      go_enter Try.func254, Try.ntmps254
      go_wp2
      refine wp_loop_rounds 3 ?_
      rw [rounds_succ]
      go_wp2
      rw [rounds_succ]
      go_wp2
      rw [rounds_succ]
      go_wp2
      go_ret
      exact ⟨ret1i (by rw [HO.out, HY.out]), rfl⟩
    · have hyb : (y != 0) = true := by simpa using hy
      clear hy
      go_enter Try.func254, Try.ntmps254
      go_wp2
      refine wp_loop_rounds 3 ?_
      rw [rounds_succ]
      go_wp2
      rw [rounds_succ]
      go_wp2
      go_ret
      exact ⟨ret1i HO.out.symm, rfl⟩
  · have hxb : (x != 0) = true := by simpa using hx
    have HO : Hid (or2 x y = x) := by show _ = _; unfold or2; rw [if_pos hx]
    clear hx
    go_enter Try.func254, Try.ntmps254
    go_wp2
    refine wp_loop_rounds 3 ?_
    rw [rounds_succ]
    go_wp2
    go_ret
    exact ⟨ret1i HO.out.symm, rfl⟩

theorem or_cmp (ah al bh bl : Int) (h2 : U64 al) (h4 : U64 bl) : or2 (cmpI ah bh) (cmpI al bl) = cmpI (wv ah al) (wv bh bl) := by
  unfold U64 at *
  rcases Int.lt_trichotomy ah bh with h | h | h
  · have e1 : cmpI ah bh = -1 := by unfold cmpI; rw [if_pos h]
    have e2 : cmpI (wv ah al) (wv bh bl) = -1 := by unfold cmpI wv; rw [if_pos (by omega)]
    rw [e1, e2]; rfl
  · have e1 : cmpI ah bh = 0 := by unfold cmpI; rw [if_neg (by omega), if_pos h]
    rw [e1]
    subst h
    unfold or2 cmpI wv
    rw [if_neg (by simp)]
    rcases Int.lt_trichotomy al bl with g | g | g
    · rw [if_pos g, if_pos (by omega)]
    · rw [if_neg (by omega), if_pos g, if_neg (by omega), if_pos (by omega)]
    · rw [if_neg (by omega), if_neg (by omega), if_neg (by omega), if_neg (by omega)]
  · have e1 : cmpI ah bh = 1 := by unfold cmpI; rw [if_neg (by omega), if_neg (by omega)]
    have e2 : cmpI (wv ah al) (wv bh bl) = 1 := by unfold cmpI wv; rw [if_neg (by omega), if_neg (by omega)]
    rw [e1, e2]; rfl

set_option maxHeartbeats 1000000 in
theorem wide_cmp (ah al bh bl : Int) (h2 : U64 al) (h4 : U64 bl) (w : World) :
    Calls Try.prog 228 #[.agg #[.int .u64 ah, .int .u64 al], .agg #[.int .u64 bh, .int .u64 bl]] w fun e w' => e = .returned (.int .i64 (cmpI (wv ah al) (wv bh bl))) ∧ Below w.heap.size w w' := by
  have HO := Lib.hid (or_cmp ah al bh bl h2 h4)
  go_enter Try.func228, Try.ntmps228
  go_wp2
  go_region_held3 (fun w1 => w1.cell? ⟨w.heap.size, 0, none⟩ = some (.int .u64 ah) ∧ w1.cell? ⟨w.heap.size, 1, none⟩ = some (.int .u64 al) ∧ w1.cell? ⟨w.heap.size + 1, 0, none⟩ = some (.int .u64 bh) ∧ w1.cell? ⟨w.heap.size + 1, 1, none⟩ = some (.int .u64 bl)) (go_keep)
    (first | (go_at_call 255; ((with_reducible refine (cmp_u64 ah bh _).mono ?_); rintro e w' ⟨rfl, rfl⟩)) | (go_at_call 255; ((with_reducible refine (cmp_u64 al bl _).mono ?_); rintro e w' ⟨rfl, rfl⟩)) | (go_at_call 254; refine (cmp_or _ (cmpI ah bh) (cmpI al bl) _ (by simp [go_sem]) (by simp [go_sem])).mono ?_; rintro e w' ⟨rfl, rfl⟩))
  go_wp2
  go_ret
  exact ⟨ret1i HO.out, ((((Below.refl _ _).alloc (Nat.le_refl _) _).alloc (by simp) _).alloc (by simp; omega) _).drew⟩

/-! ### product, Prods -/
def sg (a : Int) : Int := cmpI a 0
theorem sg_mul (a b : Int) : sg a * sg b = sg (a * b) := by
  unfold sg cmpI
  rcases Int.lt_trichotomy a 0 with h | h | h <;> rcases Int.lt_trichotomy b 0 with g | g | g
  · have := Int.mul_pos_of_neg_of_neg h g
    rw [if_pos h, if_pos g, if_neg (by omega), if_neg (by omega)]; rfl
  · subst g; simp
  · have := Int.mul_neg_of_neg_of_pos h g
    rw [if_pos h, if_neg (by omega), if_neg (by omega), if_pos this]; rfl
  · subst h; simp
  · subst h; simp
  · subst h; simp
  · have := Int.mul_neg_of_pos_of_neg h g
    rw [if_neg (by omega), if_neg (by omega), if_pos g, if_pos this]; rfl
  · subst g; simp
  · have := Int.mul_pos h g
    rw [if_neg (by omega), if_neg (by omega), if_neg (by omega), if_neg (by omega), if_neg (by omega), if_neg (by omega)]; rfl
theorem sg_cases (a : Int) : (a < 0 ∧ sg a = -1) ∨ (a = 0 ∧ sg a = 0) ∨ (0 < a ∧ sg a = 1) := by
  unfold sg cmpI
  rcases Int.lt_trichotomy a 0 with h | h | h
  · exact .inl ⟨h, by rw [if_pos h]⟩
  · exact .inr (.inl ⟨h, by rw [if_neg (by omega), if_pos h]⟩)
  · exact .inr (.inr ⟨h, by rw [if_neg (by omega), if_neg (by omega)]⟩)
theorem cmp_cases (a b : Int) : (a < b ∧ cmpI a b = -1) ∨ (a = b ∧ cmpI a b = 0) ∨ (b < a ∧ cmpI a b = 1) := by
  unfold cmpI
  rcases Int.lt_trichotomy a b with h | h | h
  · exact .inl ⟨h, by rw [if_pos h]⟩
  · exact .inr (.inl ⟨h, by rw [if_neg (by omega), if_pos h]⟩)
  · exact .inr (.inr ⟨h, by rw [if_neg (by omega), if_neg (by omega)]⟩)
theorem prods_ne (P Q : Int) (h : sg P ≠ sg Q) : cmpI (sg P) (sg Q) = cmpI P Q := by
  rcases sg_cases P with ⟨p, e⟩ | ⟨p, e⟩ | ⟨p, e⟩ <;> rcases sg_cases Q with ⟨q, f⟩ | ⟨q, f⟩ | ⟨q, f⟩ <;> rcases cmp_cases P Q with ⟨r, g⟩ | ⟨r, g⟩ | ⟨r, g⟩ <;> rw [e, f] at h ⊢ <;> rw [g] <;> first | rfl | omega | exact absurd rfl h
theorem prods_eq (P Q : Int) (h : sg P = sg Q) : sg P * cmpI P.natAbs Q.natAbs = cmpI P Q := by
  rcases sg_cases P with ⟨p, e⟩ | ⟨p, e⟩ | ⟨p, e⟩ <;> rcases sg_cases Q with ⟨q, f⟩ | ⟨q, f⟩ | ⟨q, f⟩ <;> rcases cmp_cases P Q with ⟨r, g⟩ | ⟨r, g⟩ | ⟨r, g⟩ <;> rcases cmp_cases P.natAbs Q.natAbs with ⟨s, k⟩ | ⟨s, k⟩ | ⟨s, k⟩ <;> rw [e, f] at h <;> rw [e, g, k] <;> first | rfl | omega

theorem size_u64 {a : Int} (h : I64 a) : U64 a.natAbs := by unfold I64 at h; unfold U64; omega
theorem sg_bd (a : Int) : -1 ≤ sg a ∧ sg a ≤ 1 := by rcases sg_cases a with ⟨_, e⟩ | ⟨_, e⟩ | ⟨_, e⟩ <;> rw [e] <;> omega
theorem sg_mul_bd (a b : Int) : -1 ≤ sg a * sg b ∧ sg a * sg b ≤ 1 := by rw [sg_mul]; exact sg_bd _
theorem cmp_0 (a : Int) (w : World) : Calls Try.prog 227 #[.int .i64 a, .int .i64 0] w fun e w' => e = .returned (.int .i64 (sg a)) ∧ w = w' := cmp_int a 0 w
theorem wide_product (a b : Int) (ha : I64 a) (hb : I64 b) (w : World) :
    Calls Try.prog 226 #[.int .i64 a, .int .i64 b] w fun e w' => e = .returned (.tuple #[.int .i64 (sg (a * b)), .agg #[.int .u64 ((a * b).natAbs / 18446744073709551616), .int .u64 ((a * b).natAbs % 18446744073709551616)]]) ∧ Below w.heap.size w w' := by
  have ua := size_u64 ha
  have ub := size_u64 hb
  have hs := sg_mul_bd a b
  have HS := Lib.hid (sg_mul a b)
  have HN : Hid ((a.natAbs : Int) * b.natAbs = (a * b).natAbs) := by show _ = _; rw [Int.natAbs_mul]; rfl
  have K1 := Lib.hid (fun W => word_size a ha W)
  have K2 := Lib.hid (fun W => word_size b hb W)
  have K3 := Lib.hid (fun W => wide_mul a.natAbs b.natAbs ua ub W)
  rw [HN.out] at K3
  have HX := Lib.hid (Box.new w #[.int .u64 0, .int .u64 0] 281)
  go_enter Try.func226, Try.ntmps226
  go_wp2_with fail
  refine (cmp_0 a _).mono ?_
  rintro e w' ⟨rfl, rfl⟩
  go_wp2_with fail
  refine (cmp_0 b _).mono ?_
  rintro e w' ⟨rfl, rfl⟩
  go_wp2_with fail
  refine (K1.out _).mono ?_
  rintro e w' ⟨rfl, rfl⟩
  go_wp2_with fail
  refine (K2.out _).mono ?_
  rintro e w' ⟨rfl, rfl⟩
  go_wp2_with fail
  refine (K3.out _).mono ?_
  rintro e w1 ⟨rfl, b1⟩
  obtain ⟨x0, x1, x2, x3⟩ := (Box.below HX.out b1 (by simp)).two
  go_wp2
  refine bodyPost_ret (v := .tuple #[.int .i64 (sg a * sg b), .agg #[.int .u64 ((a * b).natAbs / 18446744073709551616), .int .u64 ((a * b).natAbs % 18446744073709551616)]]) (by simp [results, Try.results226, go_sem, x0, x1]) rfl ⟨by rw [HS.out], ?_⟩
  exact ((((Below.refl _ _).alloc (Nat.le_refl _) _).trans (b1.mono (by simp))).setCell (p := ⟨w.heap.size, 0, none⟩) (Nat.le_refl _) _).setCell (p := ⟨w.heap.size, 1, none⟩) (Nat.le_refl _) _

theorem u64_of_mod (n : Int) : U64 (n % 18446744073709551616) := by unfold U64; omega
theorem wv_split (n : Int) : wv (n / 18446744073709551616) (n % 18446744073709551616) = n := by unfold wv; omega
theorem wide_prods (a b c d : Int) (ha : I64 a) (hb : I64 b) (hc : I64 c) (hd : I64 d) (w : World) :
    Calls Try.prog 201 #[.int .i64 a, .int .i64 b, .int .i64 c, .int .i64 d] w fun e w' => e = .returned (.int .i64 (cmpI (a * b) (c * d))) ∧ Below w.heap.size w w' := by
  have K1 := Lib.hid (fun W => wide_product a b ha hb W)
  have K2 := Lib.hid (fun W => wide_product c d hc hd W)
  generalize a * b = P at *
  generalize c * d = Q at *
  have hp := sg_bd P
  have hq := sg_bd Q
  have U1 := u64_of_mod P.natAbs
  have U2 := u64_of_mod Q.natAbs
  have KC : Hid (∀ W, Calls Try.prog 228 #[.agg #[.int .u64 (P.natAbs / 18446744073709551616), .int .u64 (P.natAbs % 18446744073709551616)], .agg #[.int .u64 (Q.natAbs / 18446744073709551616), .int .u64 (Q.natAbs % 18446744073709551616)]] W fun e w' => e = .returned (.int .i64 (cmpI P.natAbs Q.natAbs)) ∧ Below W.heap.size W w') := by
    intro W
    have h := wide_cmp (P.natAbs / 18446744073709551616) (P.natAbs % 18446744073709551616) (Q.natAbs / 18446744073709551616) (Q.natAbs % 18446744073709551616) U1 U2 W
    rw [wv_split, wv_split] at h
    exact h
  clear U1 U2
  generalize (P.natAbs : Int) / 18446744073709551616 = H1 at *
  generalize (P.natAbs : Int) % 18446744073709551616 = L1 at *
  generalize (Q.natAbs : Int) / 18446744073709551616 = H2 at *
  generalize (Q.natAbs : Int) % 18446744073709551616 = L2 at *
  have H1' := Lib.hid (prods_ne P Q)
  have H2' := Lib.hid (prods_eq P Q)
  have hcm : -1 ≤ cmpI P.natAbs Q.natAbs ∧ cmpI P.natAbs Q.natAbs ≤ 1 := by rcases cmp_cases P.natAbs Q.natAbs with ⟨_, e⟩ | ⟨_, e⟩ | ⟨_, e⟩ <;> rw [e] <;> omega
  generalize cmpI P.natAbs Q.natAbs = k at *
  by_cases h : sg P = sg Q
  · have HE := Lib.hid (H2'.out h)
    have hmul : -1 ≤ sg Q * k ∧ sg Q * k ≤ 1 := by
      rcases sg_cases Q with ⟨_, e⟩ | ⟨_, e⟩ | ⟨_, e⟩ <;> rw [e] <;> omega
    rw [h] at K1 HE
    clear H1' H2' h hp
    generalize sg Q = s at *
    go_enter Try.func201, Try.ntmps201
    go_wp2_with fail
    refine (K1.out _).mono ?_
    rintro e w1 ⟨rfl, b1⟩
    have HX1 := Lib.hid (Box.new w1 #[.int .u64 H1, .int .u64 L1] 281)
    go_wp2_with fail
    refine (K2.out _).mono ?_
    rintro e w2 ⟨rfl, b2⟩
    obtain ⟨x0, x1, x2, x3⟩ := (Box.below HX1.out b2 (by simp)).two
    have n1 : w1.heap.size < w2.heap.size := by have := b2.size; simp at this; omega
    go_wp2_with fail
    refine (KC.out _).mono ?_
    rintro e w3 ⟨rfl, b3⟩
    go_wp2
    go_ret
    refine ⟨ret1i HE.out, ?_⟩
    have c2 := (b1.alloc b1.size (.cells #[.int .u64 H1, .int .u64 L1] 281)).trans (b2.mono (by have := b1.size; simp; omega))
    have c3 := c2.alloc c2.size (.cells #[.int .u64 H2, .int .u64 L2] 281)
    exact c3.trans (b3.mono c3.size)
  · have HE := Lib.hid (H1'.out h)
    have hne : (sg P != sg Q) = true := by simpa using h
    clear H1' H2' h
    generalize sg P = s at *
    generalize sg Q = t at *
    go_enter Try.func201, Try.ntmps201
    go_wp2_with fail
    refine (K1.out _).mono ?_
    rintro e w1 ⟨rfl, b1⟩
    go_wp2_with fail
    refine (K2.out _).mono ?_
    rintro e w2 ⟨rfl, b2⟩
    go_wp2_with fail
    refine (cmp_int s t _).mono ?_
    rintro e w3 ⟨rfl, rfl⟩
    go_wp2
    go_ret
    refine ⟨ret1i HE.out, ?_⟩
    have c2 := (b1.alloc b1.size (.cells #[.int .u64 H1, .int .u64 L1] 281)).trans (b2.mono (by have := b1.size; simp; omega))
    exact c2.alloc c2.size _
end Go.Proofs.Ytaeodkpkgbjaeaa

/-! The contract of wide.isText. -/
namespace Go.Proofs.Ytaeodkpkgbjaeaa
open Go.RowKit

def digB (c : UInt8) : Bool := decide (48 ≤ (c.toNat : Int) ∧ (c.toNat : Int) ≤ 57)
def isTextB (l : List UInt8) : Bool := !l.isEmpty && !(decide (1 < l.length) && l.head? == some 48) && l.all digB
theorem isText_bad {s : ByteArray} (k : Nat) (hk : k < s.size) (h : ¬ (48 ≤ (s[k].toNat : Int) ∧ (s[k].toNat : Int) ≤ 57)) : isTextB s.data.toList = false := by
  unfold isTextB
  have : s.data.toList.all digB = false := by
    rw [List.all_eq_false]
    refine ⟨s[k], ?_, ?_⟩
    · show s.data[k] ∈ s.data.toList
      simp
    · unfold digB; simpa using h
  rw [this, Bool.and_false]
theorem isText_zero {s : ByteArray} (h1 : 1 < s.size) (h : (s[0].toNat : Int) = 48) : isTextB s.data.toList = false := by
  have h2 : s.data.toList.head? = some 48 := by
    have e : s.data.toList.head? = some s[0] := by
      rw [List.head?_eq_getElem?, Array.getElem?_toList, Array.getElem?_eq_getElem (show 0 < s.data.size by have : s.size = s.data.size := rfl; omega)]
      rfl
    rw [e]
    congr 1
    exact UInt8.toNat_inj.1 (by show s[0].toNat = 48; omega)
  unfold isTextB
  rw [h2]
  have : decide (1 < s.data.toList.length) = true := by simpa using h1
  rw [this]; simp
theorem isText_good {s : ByteArray} (h0 : s.size ≠ 0) (hz : 1 < s.size → ∀ h : 0 < s.size, (s[0].toNat : Int) ≠ 48) (h : (s.data.toList.take s.size).all digB = true) : isTextB s.data.toList = true := by
  have hl : s.data.toList.length = s.size := by simp
  unfold isTextB
  rw [← hl, List.take_length] at h
  rw [h]
  have e1 : s.data.toList.isEmpty = false := by
    cases hd : s.data.toList with
    | nil => rw [hd] at hl; exact absurd hl.symm h0
    | cons a b => rfl
  rw [e1]
  have e2 : (decide (1 < s.data.toList.length) && s.data.toList.head? == some 48) = false := by
    by_cases h1 : 1 < s.size
    · have e : s.data.toList.head? = some s[0] := by
        rw [List.head?_eq_getElem?, Array.getElem?_toList, Array.getElem?_eq_getElem (show 0 < s.data.size by have : s.size = s.data.size := rfl; omega)]
        rfl
      rw [e]
      have := hz h1 (by omega)
      have : (some s[0] == some (48 : UInt8)) = false := by
        simp only [Option.some_beq_some, beq_eq_false_iff_ne]
        intro hc; rw [hc] at this; exact this rfl
      rw [this, Bool.and_false]
    · have : decide (1 < s.data.toList.length) = false := by rw [hl]; simpa using h1
      rw [this, Bool.false_and]
  rw [e2]; rfl
theorem digs_snoc (s : ByteArray) (k : Nat) (h : k < s.size) (ha : (s.data.toList.take k).all digB = true) (hd : 48 ≤ (s[k].toNat : Int) ∧ (s[k].toNat : Int) ≤ 57) : (s.data.toList.take (k + 1)).all digB = true := by
  rw [List.take_succ_eq_append_getElem (by simpa using h), List.all_append, ha]
  have : digB s[k] = true := by unfold digB; simpa using hd
  simp only [List.all_cons, List.all_nil, Bool.and_true, Bool.true_and]
  exact this

theorem retb {a b : Bool} (h : a = b) : Ending.returned (.bool a) = .returned (.bool b) := by rw [h]
end Go.Proofs.Ytaeodkpkgbjaeaa

/-! The contract of wide.shift: ten times a wide number, and a digit. -/
namespace Go.Proofs.Ytaeodkpkgbjaeaa
open Go.RowKit

/-- what is there in the middle of shift's products -/
def ShiftJ (B : Nat) (W : World) (h l : Int) (l0 l1 h0 h1 : Value) (f : Nat → Bool) (vs : List Value) (w : World) : Prop :=
  (Box w B #[.int .u64 h, .int .u64 l] 281 ∧ Box w (B + 1) #[.int .u64 0, .int .u64 0] 281 ∧ Below B W w) ∧
  (f 0 = true → vs.getD 0 undef = ptr B 1) ∧ (f 1 = true → vs.getD 1 undef = .int .u64 l) ∧ (f 2 = true → vs.getD 2 undef = .agg #[l0, l1]) ∧
  (f 3 = true → vs.getD 3 undef = ptr B 0) ∧ (f 4 = true → vs.getD 4 undef = .int .u64 h) ∧ (f 5 = true → vs.getD 5 undef = .agg #[h0, h1]) ∧
  (f 6 = true → ∃ g, vs.getD 6 undef = ptr g 0 ∧ B + 1 < g ∧ Box w g (if f 8 then #[l0, l1] else #[.int .u64 0, .int .u64 0]) 281) ∧
  (f 7 = true → ∃ g, vs.getD 7 undef = ptr g 0 ∧ B + 1 < g ∧ Box w g (if f 9 then #[h0, h1] else #[.int .u64 0, .int .u64 0]) 281) ∧
  (f 6 = true → f 7 = true → vs.getD 6 undef ≠ vs.getD 7 undef) ∧ (f 8 = true → f 6 = true) ∧ (f 9 = true → f 7 = true)
theorem ShiftJ.below {B : Nat} {W w w' : World} {h l : Int} {l0 l1 h0 h1 : Value} {f : Nat → Bool} {vs : List Value} (hj : ShiftJ B W h l l0 l1 h0 h1 f vs w) (hb : Below w.heap.size w w') (hB : B ≤ w.heap.size) : ShiftJ B W h l l0 l1 h0 h1 f vs w' := by
  obtain ⟨⟨x, x', b⟩, a0, a1, a2, a3, a4, a5, a6, a7, a67⟩ := hj
  refine ⟨⟨x.below hb x.lt, x'.below hb x'.lt, b.trans (hb.mono hB)⟩, a0, a1, a2, a3, a4, a5, fun h6 => ?_, fun h7 => ?_, a67⟩
  · obtain ⟨g, e, hg, hx⟩ := a6 h6
    exact ⟨g, e, hg, hx.below hb hx.lt⟩
  · obtain ⟨g, e, hg, hx⟩ := a7 h7
    exact ⟨g, e, hg, hx.below hb hx.lt⟩
theorem ShiftJ.alike {B : Nat} {W : World} {h l : Int} {l0 l1 h0 h1 : Value} (f g : Nat → Bool) (vs : List Value) (w : World) (hfg : ∀ k, k < 10 → f k = g k) (hj : ShiftJ B W h l l0 l1 h0 h1 f vs w) : ShiftJ B W h l l0 l1 h0 h1 g vs w := by
  unfold ShiftJ at *
  rw [← hfg 0 (by omega), ← hfg 1 (by omega), ← hfg 2 (by omega), ← hfg 3 (by omega), ← hfg 4 (by omega), ← hfg 5 (by omega), ← hfg 6 (by omega), ← hfg 7 (by omega), ← hfg 8 (by omega), ← hfg 9 (by omega)]
  exact hj

end Go.Proofs.Ytaeodkpkgbjaeaa

/-! The contract of wide.Parse. -/
namespace Go.Proofs.Ytaeodkpkgbjaeaa
open Go.RowKit

/-- the number that digits say -/
def dec (l : List UInt8) : Int := l.foldl (fun a c => a * 10 + ((c.toNat : Int) - 48)) 0
theorem dec_append (l : List UInt8) (c : UInt8) : dec (l ++ [c]) = dec l * 10 + ((c.toNat : Int) - 48) := by
  unfold dec; rw [List.foldl_append]; rfl
theorem dec_take (s : ByteArray) (k : Nat) (h : k < s.size) : dec (s.data.toList.take (k + 1)) = dec (s.data.toList.take k) * 10 + ((s[k].toNat : Int) - 48) := by
  rw [List.take_succ_eq_append_getElem (by simpa using h), dec_append]; rfl
theorem digB_bd {c : UInt8} (h : digB c = true) : 48 ≤ (c.toNat : Int) ∧ (c.toNat : Int) ≤ 57 := by
  unfold digB at h; exact of_decide_eq_true h
theorem digB_at {s : ByteArray} (h : s.data.toList.all digB = true) (k : Nat) (hk : k < s.size) : 48 ≤ (s[k].toNat : Int) ∧ (s[k].toNat : Int) ≤ 57 := by
  rw [List.all_eq_true] at h
  exact digB_bd (h s[k] (by show s.data[k] ∈ s.data.toList; simp))
theorem dec_nonneg (s : ByteArray) (h : s.data.toList.all digB = true) (k : Nat) (hk : k ≤ s.size) : 0 ≤ dec (s.data.toList.take k) := by
  induction k with
  | zero => rw [List.take_zero]; exact Int.le_refl 0
  | succ k ih =>
    have := ih (by omega)
    have hd := digB_at h k (by omega)
    rw [dec_take s k (by omega)]; omega
theorem dec_mono (s : ByteArray) (h : s.data.toList.all digB = true) (k n : Nat) (hk : k + n ≤ s.size) : dec (s.data.toList.take k) ≤ dec (s.data.toList.take (k + n)) := by
  induction n with
  | zero => exact Int.le_refl _
  | succ n ih =>
    have h1 := ih (by omega)
    have h2 := dec_nonneg s h (k + n) (by omega)
    have hd := digB_at h (k + n) (by omega)
    rw [show k + (n + 1) = k + n + 1 by omega, dec_take s (k + n) (by omega)]; omega
theorem isText_all {l : List UInt8} (h : isTextB l = true) : l.all digB = true := by
  unfold isTextB at h
  simp only [Bool.and_eq_true] at h
  exact h.2

def psH (l : List UInt8) : Int := if isTextB l = true ∧ l.length ≤ 39 then wfH (dec l) else 0
def psL (l : List UInt8) : Int := if isTextB l = true ∧ l.length ≤ 39 then wfL (dec l) else 0
def psE (l : List UInt8) : Int := if isTextB l = true then (if l.length ≤ 39 then wfE (dec l) else 10) else 20
abbrev psV (l : List UInt8) : Value := .tuple #[.agg #[.int .u64 (psH l), .int .u64 (psL l)], .int .i64 (psE l)]
theorem psV_no {l : List UInt8} (h : isTextB l = false) : Ending.returned (.tuple #[.agg #[.int .u64 0, .int .u64 0], .int .i64 20]) = .returned (psV l) := by
  unfold psV psH psL psE
  rw [h]; rfl
theorem psV_long {l : List UInt8} (h : isTextB l = true) (hl : 39 < l.length) : Ending.returned (.tuple #[.agg #[.int .u64 0, .int .u64 0], .int .i64 10]) = .returned (psV l) := by
  unfold psV psH psL psE
  rw [if_neg (by omega), if_neg (by omega), if_pos h, if_neg (by omega)]
theorem psV_in {l : List UInt8} (h : isTextB l = true) (hl : l.length ≤ 39) : psV l = wfV (dec l) := by
  unfold psV psH psL psE
  rw [if_pos ⟨h, hl⟩, if_pos ⟨h, hl⟩, if_pos h, if_pos hl]

end Go.Proofs.Ytaeodkpkgbjaeaa
