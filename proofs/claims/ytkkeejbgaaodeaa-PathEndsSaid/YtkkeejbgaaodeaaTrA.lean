import Derived.Test.YtkkeejbgaaodeaaTreeZ
import Derived.Test.YtkkeejbgaaodeaaTreeO
import Derived.Test.YtkkeejbgaaodeaaTreeT
import Derived.Test.YtkkeejbgaaodeaaCutF

/-! Layer 10: what lives. -/
namespace Go.Proofs.Ytkkeejbgaaodeaa
open Go.RowKit
set_option linter.unusedVariables false
set_option linter.unusedSimpArgs false

theorem cnt_eq {n m : TN} (h : cnt n = cnt m) : n.co = m.co ∧ n.lv = m.lv ∧ n.lf = m.lf ∧ n.rt = m.rt ∧ n.sz = m.sz := by
  unfold cnt at h
  simpa using h
/-- nodes with the same contents are the same -/
theorem samT_of {N M : List TN} (h : N.map cnt = M.map cnt) (d : Int) : samT d N d M = true := by
  unfold samT
  rw [decide_eq_true_iff]
  have hl : N.length = M.length := by
    have := congrArg List.length h
    simpa using this
  refine ⟨rfl, hl, fun j hj => ?_⟩
  have h1 : cnt (N.getD j tn0) = cnt (M.getD j tn0) := by rw [← map_getD_cnt, ← map_getD_cnt, h]
  obtain ⟨e1, e2, e3, e4, e5⟩ := cnt_eq h1
  unfold nodeS samC
  rw [e1, e2, e3, e4, e5]
  simp
theorem liesT_up {w w' : World} {A : Option Addr} {N : List TN} (h : LiesT w w.heap.size A N) (hb : Below w.heap.size w w') : LiesT w' w'.heap.size A N := (h.below hb).mono hb.size
abbrev R10 (a b c : Option Addr) : List Row := [⟨a, [1], 1⟩, ⟨b, [3], 1⟩, ⟨c, [2], 1⟩]
abbrev T10 : List TN := [⟨none, 0, [1], 3, 1, 4, 3⟩, ⟨none, 0, [1], 2, 2, 3, 2⟩, ⟨none, 0, [], 0, 0, 0, 1⟩, ⟨none, 0, [], 0, 0, 0, 1⟩, ⟨none, 0, [], 0, 0, 0, 1⟩]
theorem gv10 (a b c : Option Addr) : groG 1 (R10 a b c) [0, 1, 0, 0] 0 1 = (1, T10, 4, 0) := by kernel_rfl
theorem okR10 (a b c : Option Addr) : OkR (R10 a b c) := by
  intro r hr
  simp at hr
  rcases hr with rfl | rfl | rfl <;> refine ⟨by simp, by simp, fun x hx => ?_⟩ <;> (simp at hx; unfold I64; omega)
theorem tn_of {n : TN} {co : List Int} {lv lf rt sz : Int} (h : cnt n = ⟨none, 0, co, lv, lf, rt, sz⟩) : n = ⟨n.a, n.c, co, lv, lf, rt, sz⟩ := by
  obtain ⟨a, c, co', lv', lf', rt', sz'⟩ := n
  unfold cnt at h
  simp only [TN.mk.injEq, true_and] at h ⊢
  exact h
theorem five10 {N : List TN} (h : N.map cnt = T10) : ∃ a0 a1 a2 a3 a4 c0 c1 c2 c3 c4, N = [⟨a0, c0, [1], 3, 1, 4, 3⟩, ⟨a1, c1, [1], 2, 2, 3, 2⟩, ⟨a2, c2, [], 0, 0, 0, 1⟩, ⟨a3, c3, [], 0, 0, 0, 1⟩, ⟨a4, c4, [], 0, 0, 0, 1⟩] := by
  have hl : N.length = 5 := by
    have := congrArg List.length h
    simpa using this
  rcases N with _ | ⟨n0, _ | ⟨n1, _ | ⟨n2, _ | ⟨n3, _ | ⟨n4, _ | ⟨n5, r⟩⟩⟩⟩⟩⟩ <;> simp at hl
  simp only [List.map_cons, List.map_nil, List.cons.injEq, and_true] at h
  obtain ⟨h0, h1, h2, h3, h4⟩ := h
  exact ⟨n0.a, n1.a, n2.a, n3.a, n4.a, n0.c, n1.c, n2.c, n3.c, n4.c, by rw [← tn_of h0, ← tn_of h1, ← tn_of h2, ← tn_of h3, ← tn_of h4]⟩
theorem lv10 (a0 a1 a2 a3 a4 : Option Addr) (c0 c1 c2 c3 c4 : Nat) : leafT [⟨a0, c0, [1], 3, 1, 4, 3⟩, ⟨a1, c1, [1], 2, 2, 3, 2⟩, ⟨a2, c2, [], 0, 0, 0, 1⟩, ⟨a3, c3, [], 0, 0, 0, 1⟩, ⟨a4, c4, [], 0, 0, 0, 1⟩] 1 [2] = (3, 2, 0) ∧ isT [⟨a0, c0, [1], 3, 1, 4, 3⟩, ⟨a1, c1, [1], 2, 2, 3, 2⟩, ⟨a2, c2, [], 0, 0, 0, 1⟩, ⟨a3, c3, [], 0, 0, 0, 1⟩, ⟨a4, c4, [], 0, 0, 0, 1⟩] 1 = true := ⟨by kernel_rfl, by kernel_rfl⟩
theorem lv10b : isT [] 0 = false ∧ mostT 1 1 3 1 = 4 := by decide +kernel
theorem lv10c {N : List TN} (h : N.map cnt = T10) : leafT N 1 [2] = (3, 2, 0) ∧ isT N 1 = true ∧ N.length = 5 := by
  obtain ⟨a0, a1, a2, a3, a4, c0, c1, c2, c3, c4, rfl⟩ := five10 h
  exact ⟨(lv10 ..).1, (lv10 ..).2, rfl⟩
/-- the nodes that are wanted -/
abbrev M10 (g1 g2 : Nat) : List TN := [⟨some ⟨g1, 0, none⟩, 1, [1], 3, 1, 4, 3⟩, ⟨some ⟨g2, 0, none⟩, 1, [1], 2, 2, 3, 2⟩, ⟨none, 0, [], 0, 0, 0, 1⟩, ⟨none, 0, [], 0, 0, 0, 1⟩, ⟨none, 0, [], 0, 0, 0, 1⟩]
theorem m10_lies {w : World} {g1 g2 g3 : Nat} {cs : Array Value} (h1 : Box w g1 #[.int .i64 1] 3) (h2 : Box w g2 #[.int .i64 1] 3) (h3 : Box w g3 cs 39) (hc : cs = (ndL (M10 g1 g2)).toArray) : LiesT w w.heap.size (some ⟨g3, 0, none⟩) (M10 g1 g2) := by
  subst hc
  refine ⟨fun _ => ⟨⟨g3, 0, none⟩, rfl, h3.lt, fun k hk => ?_⟩, fun n hn => ?_⟩
  · have hk2 : (M10 g1 g2)[k]? = some ((M10 g1 g2).getD k tn0) := by rw [List.getD_eq_getElem?_getD, List.getElem?_eq_getElem hk]; rfl
    have key : ∀ j, j < 5 → w.cell? ((⟨g3, 0, none⟩ : Addr).add (k * 5 + j)) = (ndC ((M10 g1 g2).getD k tn0)).toList[j]? := fun j hj => by
      rw [cell_add, h3.cell, ← flat_get _ 5 ndC_len j hj (M10 g1 g2) k _ hk2]
      simp [ndL]
    exact ⟨key 0 (by omega), key 1 (by omega), key 2 (by omega), key 3 (by omega), key 4 (by omega)⟩
  · simp at hn
    rcases hn with rfl | rfl | rfl
    · exact boxLies h1 rfl
    · exact boxLies h2 rfl
    · exact fun h0 => absurd h0 (by simp)
set_option maxRecDepth 100000 in
set_option maxHeartbeats 8000000 in
theorem lives10 (w : World) : Calls Try.prog 14 #[] w fun e w' => e = .returned (.bool true) ∧ Below w.heap.size w w' := by
  have J0 := Lib.hid ((((((Kpc.start w).alloc #[.int .i64 1] 3).alloc #[.int .i64 3] 3).alloc #[.int .i64 2] 3).alloc #[.slice (some ⟨w.heap.size, 0, none⟩) 1 1, .slice (some ⟨w.heap.size + 1, 0, none⟩) 1 1, .slice (some ⟨w.heap.size + 1 + 1, 0, none⟩) 1 1] 35).alloc #[.int .u64 0, .int .u64 1, .int .u64 0, .int .u64 0] 57)
  simp only [alloc_size'] at J0
  have HR0 : Hid (LiesR _ _ (some ⟨w.heap.size + 1 + 1 + 1, 0, none⟩) (R10 (some ⟨w.heap.size, 0, none⟩) (some ⟨w.heap.size + 1, 0, none⟩) (some ⟨w.heap.size + 1 + 1, 0, none⟩))) := boxLiesR J0.out.tail.head rfl (fun r hr => by
    simp at hr
    rcases hr with rfl | rfl | rfl
    · exact boxLies J0.out.tail.tail.tail.tail.head rfl
    · exact boxLies J0.out.tail.tail.tail.head rfl
    · exact boxLies J0.out.tail.tail.head rfl)
  have KG := Lib.hid (tree_Grow _ (some ⟨w.heap.size + 1 + 1 + 1 + 1, 0, none⟩) _ [0, 1, 0, 0] 3 4 1 0 1 _ HR0.out (okR10 _ _ _) (boxLiesU J0.out.head rfl) (fun x hx => by simp at hx; unfold U64; omega) (by simp) (by unfold I64; omega) (by simp) (by simp))
  unfold GivesG at KG
  rw [gv10] at KG
  simp only [List.length_cons, List.length_nil] at KG
  go_enter Try.func14, Try.ntmps14
  go_wp2_with fail
  refine KG.out.mono ?_
  rintro e w1 ⟨A1, N1, c1, rfl, m1, l1, o1, b1⟩
  obtain ⟨v1, v2, v3⟩ := lv10c m1
  have HO1 := Lib.hid o1
  have HM1 := Lib.hid m1
  have J1 := Lib.hid ((J0.out.below b1).alloc #[.int .i64 1, .slice A1 N1.length c1] 24)
  have HL1 := Lib.hid (liesT_up l1 ((Below.refl _ _).alloc (Nat.le_refl _) (.cells #[.int .i64 1, .slice A1 N1.length c1] 24)))
  have J2 := Lib.hid (J1.out.alloc #[.int .i64 2] 3)
  simp only [alloc_size'] at J2
  have HL2 := Lib.hid (liesT_up HL1.out ((Below.refl _ _).alloc (Nat.le_refl _) (.cells #[.int .i64 2] 3)))
  have KL := Lib.hid (fun W B A2 (hA : LiesT W B A1 N1) (hx : Lies W B A2 [2]) (hB : B ≤ W.heap.size) => tree_Leaf N1 1 A1 A2 [2] c1 1 B W (by omega) HO1.out hA hx (by simp) (by simp) hB)
  have KS := Lib.hid (fun W B A2 M (hA : LiesT W B A1 N1) (hA2 : LiesT W B A2 M) (hB : B ≤ W.heap.size) (hm : (M.length : Int) ≤ 100) (hM : ∀ n ∈ M, (n.co.length : Int) ≤ 9223372036854775807) => tree_Same 1 1 N1 M A1 A2 c1 5 B W hA hA2 hB (by omega) (by omega) (fun n hn => by have := HO1.out n hn; omega) hM)
  have KS2 := Lib.hid (fun W B A2 M (hA : LiesT W B A1 N1) (hA2 : LiesT W B A2 M) (hB : B ≤ W.heap.size) (hm : (M.length : Int) ≤ 100) (hM : ∀ n ∈ M, (n.co.length : Int) ≤ 9223372036854775807) => ref_SameT 1 1 N1 M A1 A2 c1 5 B W hA hA2 hB (by omega) (by omega) (fun n hn => by have := HO1.out n hn; omega) hM)
  have KI := Lib.hid (fun W B (hA : LiesT W B A1 N1) (hB : B ≤ W.heap.size) => tree_isT N1 1 A1 c1 B W (by omega) HO1.out hA hB)
  have KI0 := Lib.hid (fun W => tree_isT [] 0 none 0 0 W (by simp) (fun n hn => by cases hn) ⟨fun h0 => absurd h0 (by simp), fun n hn => by cases hn⟩ (Nat.zero_le _))
  have KM := Lib.hid (fun W => tree_Most 1 1 3 1 W)
  rw [v1] at KL
  rw [v2] at KI
  rw [lv10b.1] at KI0
  rw [lv10b.2] at KM
  rw [v3] at KL KS KS2 KI J1 J2 HL1 HL2
  simp only [List.length_cons, List.length_nil] at KL KI0
  clear v1 v2 l1 o1 b1 m1 KG HR0
  rw [v3]
  clear v3
  obtain ⟨x0, x1, _, _⟩ := J2.out.tail.head.two
  obtain ⟨x2, x3, _, _⟩ := J1.out.head.two
  go_wp2_with fail
  refine (KL.out _ _ _ HL2.out (boxLies J2.out.head rfl) (Nat.le_refl _)).mono ?_
  rintro e w2 ⟨rfl, b2⟩
  have J3 := Lib.hid (J2.out.below b2).tail
  have HL3 := Lib.hid (liesT_up HL2.out b2)
  clear b2 x0 x1 x2 x3
  obtain ⟨x0, x1, _, _⟩ := J3.out.head.two
  have J4 := Lib.hid ((((J3.out.alloc #[.int .i64 1] 3).alloc #[.int .i64 1] 3).alloc (ndL (M10 w2.heap.size (w2.heap.size + 1))).toArray 39).alloc #[.int .i64 1, .slice (some ⟨w2.heap.size + 1 + 1, 0, none⟩) 5 5] 24)
  have bx := ((((Below.refl w2.heap.size w2).alloc (Nat.le_refl _) (.cells #[.int .i64 1] 3)).alloc (by rw [alloc_size']; omega) (.cells #[.int .i64 1] 3)).alloc (by rw [alloc_size', alloc_size']; omega) (.cells (ndL (M10 w2.heap.size (w2.heap.size + 1))).toArray 39)).alloc (by rw [alloc_size', alloc_size', alloc_size']; omega) (.cells #[.int .i64 1, .slice (some ⟨w2.heap.size + 1 + 1, 0, none⟩) 5 5] 24)
  have HL4 := Lib.hid (liesT_up HL3.out bx)
  simp only [alloc_size'] at J4
  have HM4 := Lib.hid (m10_lies J4.out.tail.tail.tail.head J4.out.tail.tail.head J4.out.tail.head rfl)
  have hsm : samT 1 N1 1 (M10 w2.heap.size (w2.heap.size + 1)) = true := samT_of (HM1.out.trans rfl) 1
  have KS3 := Lib.hid (fun W B hA hA2 hB => KS.out W B (some ⟨w2.heap.size + 1 + 1, 0, none⟩) (M10 w2.heap.size (w2.heap.size + 1)) hA hA2 hB (by simp) (fun n hn => by simp at hn; rcases hn with rfl | rfl | rfl <;> simp))
  have KS4 := Lib.hid (fun W B hA hA2 hB => KS2.out W B (some ⟨w2.heap.size + 1 + 1, 0, none⟩) (M10 w2.heap.size (w2.heap.size + 1)) hA hA2 hB (by simp) (fun n hn => by simp at hn; rcases hn with rfl | rfl | rfl <;> simp))
  rw [hsm] at KS3 KS4
  generalize hM : M10 w2.heap.size (w2.heap.size + 1) = M at *
  have hML : M.length = 5 := by rw [← hM]; rfl
  rw [hML] at KS3 KS4
  have hcs : (ndL M).toArray = #[.slice (some ⟨w2.heap.size, 0, none⟩) 1 1, .int .i64 3, .int .i64 1, .int .i64 4, .int .i64 3, .slice (some ⟨w2.heap.size + 1, 0, none⟩) 1 1, .int .i64 2, .int .i64 2, .int .i64 3, .int .i64 2, .slice none 0 0, .int .i64 0, .int .i64 0, .int .i64 0, .int .i64 1, .slice none 0 0, .int .i64 0, .int .i64 0, .int .i64 0, .int .i64 1, .slice none 0 0, .int .i64 0, .int .i64 0, .int .i64 0, .int .i64 1] := by rw [← hM]; rfl
  rw [hcs] at J4 HL4 HM4
  clear KS KS2 hM hML hsm hcs bx KL
  obtain ⟨x2, x3, _, _⟩ := J4.out.head.two
  obtain ⟨x4, x5, _, _⟩ := J4.out.tail.tail.tail.tail.head.two
  go_wp2_with fail
  refine (KS3.out _ _ HL4.out HM4.out (Nat.le_refl _)).mono ?_
  rintro e w3 ⟨rfl, b3⟩
  clear x0 x1
  have J5 := Lib.hid (J4.out.below b3)
  have HL5 := Lib.hid (liesT_up HL4.out b3)
  have HM5 := Lib.hid (liesT_up HM4.out b3)
  clear b3 x2 x3 x4 x5
  obtain ⟨x2, x3, _, _⟩ := J5.out.head.two
  obtain ⟨x4, x5, _, _⟩ := J5.out.tail.tail.tail.tail.head.two
  go_wp2_with fail
  refine (KS4.out _ _ HL5.out HM5.out (Nat.le_refl _)).mono ?_
  rintro e w4 ⟨rfl, b4⟩
  have J6 := Lib.hid (J5.out.below b4)
  have HL6 := Lib.hid (liesT_up HL5.out b4)
  have HM6 := Lib.hid (liesT_up HM5.out b4)
  clear b4 x2 x3 x4 x5
  obtain ⟨x2, x3, _, _⟩ := J6.out.head.two
  obtain ⟨x4, x5, _, _⟩ := J6.out.tail.tail.tail.tail.head.two
  go_wp2_with fail
  refine (KI.out _ _ HL6.out (Nat.le_refl _)).mono ?_
  rintro e w5 ⟨rfl, b5⟩
  have J7 := Lib.hid (J6.out.below b5)
  have HL7 := Lib.hid (liesT_up HL6.out b5)
  have HM7 := Lib.hid (liesT_up HM6.out b5)
  clear b5 x2 x3 x4 x5
  obtain ⟨x2, x3, _, _⟩ := J7.out.head.two
  obtain ⟨x4, x5, _, _⟩ := J7.out.tail.tail.tail.tail.head.two
  go_wp2_with fail
  refine (KI0.out _).mono ?_
  rintro e w6 ⟨rfl, b6⟩
  have J8 := Lib.hid (J7.out.below b6)
  have HL8 := Lib.hid (liesT_up HL7.out b6)
  have HM8 := Lib.hid (liesT_up HM7.out b6)
  clear b6 x2 x3 x4 x5
  obtain ⟨x2, x3, _, _⟩ := J8.out.head.two
  obtain ⟨x4, x5, _, _⟩ := J8.out.tail.tail.tail.tail.head.two
  go_wp2_with fail
  refine (KM.out _).mono ?_
  rintro e w7 ⟨rfl, rfl⟩
  go_wp2
  go_ret
  exact ⟨rfl, J8.out.2.1⟩
end Go.Proofs.Ytkkeejbgaaodeaa
