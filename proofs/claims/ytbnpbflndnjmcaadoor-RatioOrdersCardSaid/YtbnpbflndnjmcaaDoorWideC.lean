/- Contracts of cmp.Compare and cmp.Or as wide calls them, of wide.Cmp, product and Prods. -/
import Derived.Test.YtbnpbflndnjmcaaDoorWideW
import Derived.Test.YtbnpbflndnjmcaaDoorBigQ
namespace Go.Proofs.YtbnpbflndnjmcaaDoor
open Go.RowKit

theorem cmp_u64 (a b : Int) (w : World) :
    Calls Tryd.prog 77 #[.int .u64 a, .int .u64 b] w fun e w' => e = .returned (.int .i64 (cmpI a b)) ∧ w = w' := by
  have h1 : (a != a) = false := by simp
  have h2 : (b != b) = false := by simp
  rcases Int.lt_trichotomy a b with h | h | h
  · have HC : Hid (cmpI a b = -1) := by show _ = _; unfold cmpI; rw [if_pos h]
    go_enter Tryd.func77, Tryd.ntmps77
    go_wp2
    go_ret
    exact ⟨ret1i HC.out.symm, rfl⟩
  · have HC : Hid (cmpI a b = 0) := by show _ = _; unfold cmpI; rw [if_neg (by omega), if_pos h]
    subst h
    go_enter Tryd.func77, Tryd.ntmps77
    go_wp2
    go_ret
    exact ⟨ret1i HC.out.symm, rfl⟩
  · have HC : Hid (cmpI a b = 1) := by show _ = _; unfold cmpI; rw [if_neg (by omega), if_neg (by omega)]
    have h3 : ¬ a < b := by omega
    go_enter Tryd.func77, Tryd.ntmps77
    go_wp2
    go_ret
    exact ⟨ret1i HC.out.symm, rfl⟩
theorem cmp_int (a b : Int) (w : World) :
    Calls Tryd.prog 62 #[.int .i64 a, .int .i64 b] w fun e w' => e = .returned (.int .i64 (cmpI a b)) ∧ w = w' := by
  have h1 : (a != a) = false := by simp
  have h2 : (b != b) = false := by simp
  rcases Int.lt_trichotomy a b with h | h | h
  · have HC : Hid (cmpI a b = -1) := by show _ = _; unfold cmpI; rw [if_pos h]
    go_enter Tryd.func62, Tryd.ntmps62
    go_wp2
    go_ret
    exact ⟨ret1i HC.out.symm, rfl⟩
  · have HC : Hid (cmpI a b = 0) := by show _ = _; unfold cmpI; rw [if_neg (by omega), if_pos h]
    subst h
    go_enter Tryd.func62, Tryd.ntmps62
    go_wp2
    go_ret
    exact ⟨ret1i HC.out.symm, rfl⟩
  · have HC : Hid (cmpI a b = 1) := by show _ = _; unfold cmpI; rw [if_neg (by omega), if_neg (by omega)]
    have h3 : ¬ a < b := by omega
    go_enter Tryd.func62, Tryd.ntmps62
    go_wp2
    go_ret
    exact ⟨ret1i HC.out.symm, rfl⟩

/-- the first of two that is not 0 -/
def or2 (x y : Int) : Int := if x ≠ 0 then x else y
theorem cmp_or (g : Nat) (x y : Int) (w : World) (h0 : w.cell? ⟨g, 0, none⟩ = some (.int .i64 x)) (h1 : w.cell? ⟨g, 1, none⟩ = some (.int .i64 y)) :
    Calls Tryd.prog 76 #[.slice (some ⟨g, 0, none⟩) 2 2] w fun e w' => e = .returned (.int .i64 (or2 x y)) ∧ w = w' := by
  by_cases hx : x = 0
  · have hxb : (x != 0) = false := by simpa using hx
    have HO : Hid (or2 x y = y) := by show _ = _; unfold or2; rw [if_neg (by simpa using hx)]
    clear hx
    by_cases hy : y = 0
    · have hyb : (y != 0) = false := by simpa using hy
      have HY := Lib.hid hy
      clear hy
      go_enter Tryd.func76, Tryd.ntmps76
      go_wp2
      refine wp_loop_rounds 3 ?_
      rw [rounds_succ]
      go_wp2
      rw [rounds_succ]
      go_wp2
      rw [rounds_succ]
      go_wp2
      go_ret
      exact ⟨ret1i (by rw [HO.out, HY.out]), rfl⟩
    · have hyb : (y != 0) = true := by simpa using hy
      clear hy
      go_enter Tryd.func76, Tryd.ntmps76
      go_wp2
      refine wp_loop_rounds 3 ?_
      rw [rounds_succ]
      go_wp2
      rw [rounds_succ]
      go_wp2
      go_ret
      exact ⟨ret1i HO.out.symm, rfl⟩
  · have hxb : (x != 0) = true := by simpa using hx
    have HO : Hid (or2 x y = x) := by show _ = _; unfold or2; rw [if_pos hx]
    clear hx
    go_enter Tryd.func76, Tryd.ntmps76
    go_wp2
    refine wp_loop_rounds 3 ?_
    rw [rounds_succ]
    go_wp2
    go_ret
    exact ⟨ret1i HO.out.symm, rfl⟩

theorem or_cmp (ah al bh bl : Int) (h2 : U64 al) (h4 : U64 bl) : or2 (cmpI ah bh) (cmpI al bl) = cmpI (wv ah al) (wv bh bl) := by
  unfold U64 at *
  rcases Int.lt_trichotomy ah bh with h | h | h
  · have e1 : cmpI ah bh = -1 := by unfold cmpI; rw [if_pos h]
    have e2 : cmpI (wv ah al) (wv bh bl) = -1 := by unfold cmpI wv; rw [if_pos (by omega)]
    rw [e1, e2]; rfl
  · have e1 : cmpI ah bh = 0 := by unfold cmpI; rw [if_neg (by omega), if_pos h]
    rw [e1]
    subst h
    unfold or2 cmpI wv
    rw [if_neg (by simp)]
    rcases Int.lt_trichotomy al bl with g | g | g
    · rw [if_pos g, if_pos (by omega)]
    · rw [if_neg (by omega), if_pos g, if_neg (by omega), if_pos (by omega)]
    · rw [if_neg (by omega), if_neg (by omega), if_neg (by omega), if_neg (by omega)]
  · have e1 : cmpI ah bh = 1 := by unfold cmpI; rw [if_neg (by omega), if_neg (by omega)]
    have e2 : cmpI (wv ah al) (wv bh bl) = 1 := by unfold cmpI wv; rw [if_neg (by omega), if_neg (by omega)]
    rw [e1, e2]; rfl

set_option maxHeartbeats 1000000 in
theorem wide_cmp (ah al bh bl : Int) (h2 : U64 al) (h4 : U64 bl) (w : World) :
    Calls Tryd.prog 63 #[.agg #[.int .u64 ah, .int .u64 al], .agg #[.int .u64 bh, .int .u64 bl]] w fun e w' => e = .returned (.int .i64 (cmpI (wv ah al) (wv bh bl))) ∧ Below w.heap.size w w' := by
  have HO := Lib.hid (or_cmp ah al bh bl h2 h4)
  go_enter Tryd.func63, Tryd.ntmps63
  go_wp2
  go_region_held3 (fun w1 => w1.cell? ⟨w.heap.size, 0, none⟩ = some (.int .u64 ah) ∧ w1.cell? ⟨w.heap.size, 1, none⟩ = some (.int .u64 al) ∧ w1.cell? ⟨w.heap.size + 1, 0, none⟩ = some (.int .u64 bh) ∧ w1.cell? ⟨w.heap.size + 1, 1, none⟩ = some (.int .u64 bl)) (go_keep)
    (first | (go_at_call 77; ((with_reducible refine (cmp_u64 ah bh _).mono ?_); rintro e w' ⟨rfl, rfl⟩)) | (go_at_call 77; ((with_reducible refine (cmp_u64 al bl _).mono ?_); rintro e w' ⟨rfl, rfl⟩)) | (go_at_call 76; refine (cmp_or _ (cmpI ah bh) (cmpI al bl) _ (by simp [go_sem]) (by simp [go_sem])).mono ?_; rintro e w' ⟨rfl, rfl⟩))
  go_wp2
  go_ret
  exact ⟨ret1i HO.out, ((((Below.refl _ _).alloc (Nat.le_refl _) _).alloc (by simp) _).alloc (by simp; omega) _).drew⟩

/-! ### product, Prods -/
def sg (a : Int) : Int := cmpI a 0
theorem sg_mul (a b : Int) : sg a * sg b = sg (a * b) := by
  unfold sg cmpI
  rcases Int.lt_trichotomy a 0 with h | h | h <;> rcases Int.lt_trichotomy b 0 with g | g | g
  · have := Int.mul_pos_of_neg_of_neg h g
    rw [if_pos h, if_pos g, if_neg (by omega), if_neg (by omega)]; rfl
  · subst g; simp
  · have := Int.mul_neg_of_neg_of_pos h g
    rw [if_pos h, if_neg (by omega), if_neg (by omega), if_pos this]; rfl
  · subst h; simp
  · subst h; simp
  · subst h; simp
  · have := Int.mul_neg_of_pos_of_neg h g
    rw [if_neg (by omega), if_neg (by omega), if_pos g, if_pos this]; rfl
  · subst g; simp
  · have := Int.mul_pos h g
    rw [if_neg (by omega), if_neg (by omega), if_neg (by omega), if_neg (by omega), if_neg (by omega), if_neg (by omega)]; rfl
theorem sg_cases (a : Int) : (a < 0 ∧ sg a = -1) ∨ (a = 0 ∧ sg a = 0) ∨ (0 < a ∧ sg a = 1) := by
  unfold sg cmpI
  rcases Int.lt_trichotomy a 0 with h | h | h
  · exact .inl ⟨h, by rw [if_pos h]⟩
  · exact .inr (.inl ⟨h, by rw [if_neg (by omega), if_pos h]⟩)
  · exact .inr (.inr ⟨h, by rw [if_neg (by omega), if_neg (by omega)]⟩)
theorem cmp_cases (a b : Int) : (a < b ∧ cmpI a b = -1) ∨ (a = b ∧ cmpI a b = 0) ∨ (b < a ∧ cmpI a b = 1) := by
  unfold cmpI
  rcases Int.lt_trichotomy a b with h | h | h
  · exact .inl ⟨h, by rw [if_pos h]⟩
  · exact .inr (.inl ⟨h, by rw [if_neg (by omega), if_pos h]⟩)
  · exact .inr (.inr ⟨h, by rw [if_neg (by omega), if_neg (by omega)]⟩)
theorem prods_ne (P Q : Int) (h : sg P ≠ sg Q) : cmpI (sg P) (sg Q) = cmpI P Q := by
  rcases sg_cases P with ⟨p, e⟩ | ⟨p, e⟩ | ⟨p, e⟩ <;> rcases sg_cases Q with ⟨q, f⟩ | ⟨q, f⟩ | ⟨q, f⟩ <;> rcases cmp_cases P Q with ⟨r, g⟩ | ⟨r, g⟩ | ⟨r, g⟩ <;> rw [e, f] at h ⊢ <;> rw [g] <;> first | rfl | omega | exact absurd rfl h
theorem prods_eq (P Q : Int) (h : sg P = sg Q) : sg P * cmpI P.natAbs Q.natAbs = cmpI P Q := by
  rcases sg_cases P with ⟨p, e⟩ | ⟨p, e⟩ | ⟨p, e⟩ <;> rcases sg_cases Q with ⟨q, f⟩ | ⟨q, f⟩ | ⟨q, f⟩ <;> rcases cmp_cases P Q with ⟨r, g⟩ | ⟨r, g⟩ | ⟨r, g⟩ <;> rcases cmp_cases P.natAbs Q.natAbs with ⟨s, k⟩ | ⟨s, k⟩ | ⟨s, k⟩ <;> rw [e, f] at h <;> rw [e, g, k] <;> first | rfl | omega

theorem size_u64 {a : Int} (h : I64 a) : U64 a.natAbs := by unfold I64 at h; unfold U64; omega
theorem sg_bd (a : Int) : -1 ≤ sg a ∧ sg a ≤ 1 := by rcases sg_cases a with ⟨_, e⟩ | ⟨_, e⟩ | ⟨_, e⟩ <;> rw [e] <;> omega
theorem sg_mul_bd (a b : Int) : -1 ≤ sg a * sg b ∧ sg a * sg b ≤ 1 := by rw [sg_mul]; exact sg_bd _
theorem cmp_0 (a : Int) (w : World) : Calls Tryd.prog 62 #[.int .i64 a, .int .i64 0] w fun e w' => e = .returned (.int .i64 (sg a)) ∧ w = w' := cmp_int a 0 w
theorem wide_product (a b : Int) (ha : I64 a) (hb : I64 b) (w : World) :
    Calls Tryd.prog 61 #[.int .i64 a, .int .i64 b] w fun e w' => e = .returned (.tuple #[.int .i64 (sg (a * b)), .agg #[.int .u64 ((a * b).natAbs / 18446744073709551616), .int .u64 ((a * b).natAbs % 18446744073709551616)]]) ∧ Below w.heap.size w w' := by
  have ua := size_u64 ha
  have ub := size_u64 hb
  have hs := sg_mul_bd a b
  have HS := Lib.hid (sg_mul a b)
  have HN : Hid ((a.natAbs : Int) * b.natAbs = (a * b).natAbs) := by show _ = _; rw [Int.natAbs_mul]; rfl
  have K1 := Lib.hid (fun W => word_size a ha W)
  have K2 := Lib.hid (fun W => word_size b hb W)
  have K3 := Lib.hid (fun W => wide_mul a.natAbs b.natAbs ua ub W)
  rw [HN.out] at K3
  have HX := Lib.hid (Box.new w #[.int .u64 0, .int .u64 0] 71)
  go_enter Tryd.func61, Tryd.ntmps61
  go_wp2_with fail
  refine (cmp_0 a _).mono ?_
  rintro e w' ⟨rfl, rfl⟩
  go_wp2_with fail
  refine (cmp_0 b _).mono ?_
  rintro e w' ⟨rfl, rfl⟩
  go_wp2_with fail
  refine (K1.out _).mono ?_
  rintro e w' ⟨rfl, rfl⟩
  go_wp2_with fail
  refine (K2.out _).mono ?_
  rintro e w' ⟨rfl, rfl⟩
  go_wp2_with fail
  refine (K3.out _).mono ?_
  rintro e w1 ⟨rfl, b1⟩
  obtain ⟨x0, x1, x2, x3⟩ := (Box.below HX.out b1 (by simp)).two
  go_wp2
  refine bodyPost_ret (v := .tuple #[.int .i64 (sg a * sg b), .agg #[.int .u64 ((a * b).natAbs / 18446744073709551616), .int .u64 ((a * b).natAbs % 18446744073709551616)]]) (by simp [results, Tryd.results61, go_sem, x0, x1]) rfl ⟨by rw [HS.out], ?_⟩
  exact ((((Below.refl _ _).alloc (Nat.le_refl _) _).trans (b1.mono (by simp))).setCell (p := ⟨w.heap.size, 0, none⟩) (Nat.le_refl _) _).setCell (p := ⟨w.heap.size, 1, none⟩) (Nat.le_refl _) _

theorem u64_of_mod (n : Int) : U64 (n % 18446744073709551616) := by unfold U64; omega
theorem wv_split (n : Int) : wv (n / 18446744073709551616) (n % 18446744073709551616) = n := by unfold wv; omega
theorem wide_prods (a b c d : Int) (ha : I64 a) (hb : I64 b) (hc : I64 c) (hd : I64 d) (w : World) :
    Calls Tryd.prog 44 #[.int .i64 a, .int .i64 b, .int .i64 c, .int .i64 d] w fun e w' => e = .returned (.int .i64 (cmpI (a * b) (c * d))) ∧ Below w.heap.size w w' := by
  have K1 := Lib.hid (fun W => wide_product a b ha hb W)
  have K2 := Lib.hid (fun W => wide_product c d hc hd W)
  generalize a * b = P at *
  generalize c * d = Q at *
  have hp := sg_bd P
  have hq := sg_bd Q
  have U1 := u64_of_mod P.natAbs
  have U2 := u64_of_mod Q.natAbs
  have KC : Hid (∀ W, Calls Tryd.prog 63 #[.agg #[.int .u64 (P.natAbs / 18446744073709551616), .int .u64 (P.natAbs % 18446744073709551616)], .agg #[.int .u64 (Q.natAbs / 18446744073709551616), .int .u64 (Q.natAbs % 18446744073709551616)]] W fun e w' => e = .returned (.int .i64 (cmpI P.natAbs Q.natAbs)) ∧ Below W.heap.size W w') := by
    intro W
    have h := wide_cmp (P.natAbs / 18446744073709551616) (P.natAbs % 18446744073709551616) (Q.natAbs / 18446744073709551616) (Q.natAbs % 18446744073709551616) U1 U2 W
    rw [wv_split, wv_split] at h
    exact h
  clear U1 U2
  generalize (P.natAbs : Int) / 18446744073709551616 = H1 at *
  generalize (P.natAbs : Int) % 18446744073709551616 = L1 at *
  generalize (Q.natAbs : Int) / 18446744073709551616 = H2 at *
  generalize (Q.natAbs : Int) % 18446744073709551616 = L2 at *
  have H1' := Lib.hid (prods_ne P Q)
  have H2' := Lib.hid (prods_eq P Q)
  have hcm : -1 ≤ cmpI P.natAbs Q.natAbs ∧ cmpI P.natAbs Q.natAbs ≤ 1 := by rcases cmp_cases P.natAbs Q.natAbs with ⟨_, e⟩ | ⟨_, e⟩ | ⟨_, e⟩ <;> rw [e] <;> omega
  generalize cmpI P.natAbs Q.natAbs = k at *
  by_cases h : sg P = sg Q
  · have HE := Lib.hid (H2'.out h)
    have hmul : -1 ≤ sg Q * k ∧ sg Q * k ≤ 1 := by
      rcases sg_cases Q with ⟨_, e⟩ | ⟨_, e⟩ | ⟨_, e⟩ <;> rw [e] <;> omega
    rw [h] at K1 HE
    clear H1' H2' h hp
    generalize sg Q = s at *
    go_enter Tryd.func44, Tryd.ntmps44
    go_wp2_with fail
    refine (K1.out _).mono ?_
    rintro e w1 ⟨rfl, b1⟩
    have HX1 := Lib.hid (Box.new w1 #[.int .u64 H1, .int .u64 L1] 71)
    go_wp2_with fail
    refine (K2.out _).mono ?_
    rintro e w2 ⟨rfl, b2⟩
    obtain ⟨x0, x1, x2, x3⟩ := (Box.below HX1.out b2 (by simp)).two
    have n1 : w1.heap.size < w2.heap.size := by have := b2.size; simp at this; omega
    go_wp2_with fail
    refine (KC.out _).mono ?_
    rintro e w3 ⟨rfl, b3⟩
    go_wp2
    go_ret
    refine ⟨ret1i HE.out, ?_⟩
    have c2 := (b1.alloc b1.size (.cells #[.int .u64 H1, .int .u64 L1] 71)).trans (b2.mono (by have := b1.size; simp; omega))
    have c3 := c2.alloc c2.size (.cells #[.int .u64 H2, .int .u64 L2] 71)
    exact c3.trans (b3.mono c3.size)
  · have HE := Lib.hid (H1'.out h)
    have hne : (sg P != sg Q) = true := by simpa using h
    clear H1' H2' h
    generalize sg P = s at *
    generalize sg Q = t at *
    go_enter Tryd.func44, Tryd.ntmps44
    go_wp2_with fail
    refine (K1.out _).mono ?_
    rintro e w1 ⟨rfl, b1⟩
    go_wp2_with fail
    refine (K2.out _).mono ?_
    rintro e w2 ⟨rfl, b2⟩
    go_wp2_with fail
    refine (cmp_int s t _).mono ?_
    rintro e w3 ⟨rfl, rfl⟩
    go_wp2
    go_ret
    refine ⟨ret1i HE.out, ?_⟩
    have c2 := (b1.alloc b1.size (.cells #[.int .u64 H1, .int .u64 L1] 71)).trans (b2.mono (by have := b1.size; simp; omega))
    exact c2.alloc c2.size _
end Go.Proofs.YtbnpbflndnjmcaaDoor
