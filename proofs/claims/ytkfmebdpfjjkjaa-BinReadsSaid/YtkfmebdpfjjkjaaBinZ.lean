/- Layer 21 (bin): the law's ask, the ways of Text and Ints. -/
import Derived.Test.YtkfmebdpfjjkjaaBinY
import Derived.Deep.RegionWith
namespace Go.Proofs.Ytkfmebdpfjjkjaa
open Go.RowKit
set_option linter.unusedVariables false
set_option linter.unusedSimpArgs false

theorem rT_len {b : List Int} (hb : b.length ≤ 1000000) (k : Nat) (e m : Int) : (rT b k e m).2.length ≤ 1000000 := by
  unfold rT
  generalize rN b k e m = rn
  obtain ⟨⟨K1, E1⟩, n⟩ := rn
  simp only
  split
  · simp
  · split
    · simp
    · simp only [List.length_take, List.length_drop]; omega
theorem rdL_len {b : List Int} (hb : byt b) : ∀ (j k : Nat) (e : Int) (L : List Int), k ≤ b.length → L.length ≤ k + 1 → (e = 0 → L.length ≤ k) → (rdL b j (k, e) L).2.length ≤ b.length + 1
  | 0, k, e, L, hk, h1, h2 => by rw [rdL_end (s := (k, e)) (.inl rfl)]; show L.length ≤ _; omega
  | j + 1, k, e, L, hk, h1, h2 => by
    by_cases he : e = 0
    · subst he
      have h3 := h2 rfl
      rw [rdL_step]
      have hu := rU_at (e := 0) hb hk
      have ih := rdL_len hb j (rU b k 0).1.1 (rU b k 0).1.2 (L ++ [unfoldI (rU b k 0).2]) hu
      rw [List.length_append, List.length_singleton] at ih
      by_cases hz : (rU b k 0).1.2 = 0
      · have := (rU_ok hb hz).1
        exact ih (by omega) (fun _ => by omega)
      · have := (rU_err hz).1
        exact ih (by omega) (fun h => absurd h hz)
    · rw [rdL_end (s := (k, e)) (.inr he)]
      show L.length ≤ _
      omega
theorem rL_len {b : List Int} (hby : byt b) (hb : b.length ≤ 1000000) {k : Nat} (hk : k ≤ b.length) (e m : Int) : (rL b k e m).2.length ≤ 1000001 := by
  by_cases h : (rL b k e m).1.2 = 0
  · have hN : (rN b k e m).1.1 ≤ b.length := by
      by_cases c1 : (rN b k e m).1.2 = 0
      · rw [(rN_bd c1).2.2]; exact rU_at hby hk
      · rw [(rN_err c1).1]; exact hk
    have h1 := rdL_len hby (rN b k e m).2 (rN b k e m).1.1 (rN b k e m).1.2 [] hN (by simp) (by simp)
    have h2 : (rL b k e m).2 = (rdL b (rN b k e m).2 (rN b k e m).1 []).2 ∨ (rL b k e m).2 = [] := by
      unfold rL
      split
      · exact .inr rfl
      · exact .inl rfl
    rcases h2 with h2 | h2
    · rw [h2]; exact Nat.le_trans h1 (by omega)
    · rw [h2]; simp
  · rw [(rL_err h).2]; simp
theorem liesY_of {w : World} {B n : Nat} {A : Option Addr} {c : Nat} {l : List Int} (h : OwnsY w B (.slice A n c) l) : LiesY w w.heap.size A l := by
  obtain ⟨A1, c1, e1, -, -, g3, -, -⟩ := h.lies
  cases e1
  exact g3
theorem liesI_of {w : World} {B : Nat} {A : Option Addr} {c : Nat} {l : List Int} (h : w.ownsRow B 3 1 (.slice A l.length c) l.length (litI l)) : Lies w w.heap.size A l := by
  obtain ⟨A1, c1, e1, -, -, g3⟩ := lies_ownI h
  cases e1
  exact g3
set_option maxRecDepth 100000 in
set_option maxHeartbeats 4000000 in
theorem ask21_3 (b : List Int) (A : Option Addr) (c k B g : Nat) (e m : Int) (hm : I64 m) (w : World) (hR : RdAt w B g b k e) (hA : LiesY w g A b) (hbc : b.length ≤ c) (hc : c ≤ 9223372036854775807) : Calls Try.prog 30 #[.pointer (some ⟨g, 0, none⟩), .agg #[.slice A b.length c, .int .i64 (k : Nat), .int .i64 e], .agg #[.int .i64 3, .int .i64 m]] w fun r w' => r = .returned (.tuple #[.agg #[.slice A b.length c, .int .i64 ((rT b k e m).1.1 : Nat), .int .i64 (rT b k e m).1.2], .bool true]) ∧ RdAt w' B g b (rT b k e m).1.1 (rT b k e m).1.2 ∧ Wr g w w' := by
  obtain ⟨hg, hBg, hk, hbl, hby⟩ := hR.lt
  have KU : Hid (∀ W, Below w.heap.size w W → Calls Try.prog 81 #[.agg #[.slice A b.length c, .int .i64 (k : Nat), .int .i64 e], .int .i64 m] W fun r w' => ∃ A2 c2, r = .returned (.tuple #[.agg #[.slice A b.length c, .int .i64 ((rT b k e m).1.1 : Nat), .int .i64 (rT b k e m).1.2], .slice A2 (rT b k e m).2.length c2]) ∧ LiesY w' g A2 (rT b k e m).2 ∧ Below W.heap.size W w') := fun W h => ref_ReadT21 b A c k e m hm W g (hA.below (h.mono (Nat.le_of_lt hg))) (Nat.le_trans (Nat.le_of_lt hg) h.size) hby hbl hk hbc hc
  have KR := Lib.hid (fun W (h : RdAt W B g b k e) => rd_Text m hm h)
  have HR := Lib.hid hR
  have hW : Below w.heap.size w (((w.alloc (.cells #[.slice A b.length c, .int .i64 (k : Nat), .int .i64 e] 56)).alloc (.cells #[.int .i64 3, .int .i64 m] 60)).alloc (.cells #[.slice none 0 0, .int .i64 0, .int .i64 0] 56)) :=
    (((Below.refl _ _).alloc (Nat.le_refl _) _).alloc (by rw [alloc_size']; omega) _).alloc (by rw [alloc_size', alloc_size']; omega) _
  have HW := Lib.hid hW
  have HLEN : Hid ((rT b k e m).2.length ≤ 1000001) := Nat.le_trans (rT_len hbl k e m) (by omega)
  clear hR hA hW
  generalize (rT b k e m).2 = T at *
  generalize (rT b k e m).1.1 = K1 at *
  generalize (rT b k e m).1.2 = E1 at *
  generalize hN : b.length = N at *
  clear hN
  go_enter Try.func30, Try.ntmps30
  go_wp2_with fail
  refine (KU.out _ HW.out).mono ?_
  rintro r w1 ⟨A9, c9, rfl, hT, hb⟩
  have hz : w.heap.size + 3 ≤ w1.heap.size := by
    have := hb.size
    rw [alloc_size', alloc_size', alloc_size'] at this
    omega
  have hbw := HW.out.trans (hb.mono HW.out.size)
  have b6 : Box (w1.alloc (.cells #[.slice A N c, .int .i64 (K1 : Nat), .int .i64 E1] 56)) (w.heap.size + 1 + 1) #[.slice none 0 0, .int .i64 0, .int .i64 0] 56 := by
    have h0 := Box.new ((w.alloc (.cells #[.slice A N c, .int .i64 (k : Nat), .int .i64 e] 56)).alloc (.cells #[.int .i64 3, .int .i64 m] 60)) #[.slice none 0 0, .int .i64 0, .int .i64 0] 56
    have h1 := (h0.below hb h0.lt).alloc (.cells #[.slice A N c, .int .i64 (K1 : Nat), .int .i64 E1] 56)
    rw [alloc_size', alloc_size'] at h1
    exact h1
  have b5 : Box (w1.alloc (.cells #[.slice A N c, .int .i64 (K1 : Nat), .int .i64 E1] 56)) (w.heap.size + 1) #[.int .i64 3, .int .i64 m] 60 := by
    have h0 := (Box.new (w.alloc (.cells #[.slice A N c, .int .i64 (k : Nat), .int .i64 e] 56)) #[.int .i64 3, .int .i64 m] 60).alloc (.cells #[.slice none 0 0, .int .i64 0, .int .i64 0] 56)
    have h1 := (h0.below hb h0.lt).alloc (.cells #[.slice A N c, .int .i64 (K1 : Nat), .int .i64 E1] 56)
    rw [alloc_size'] at h1
    exact h1
  have hn5 : ¬ w.heap.size + 1 = g := by omega
  have b8 := Box.new w1 #[.slice A N c, .int .i64 (K1 : Nat), .int .i64 E1] 56
  have hbw2 := hbw.alloc hbw.size (.cells #[.slice A N c, .int .i64 (K1 : Nat), .int .i64 E1] 56)
  have HRD : Hid (RdAt (w1.alloc (.cells #[.slice A N c, .int .i64 (K1 : Nat), .int .i64 E1] 56)).drew B g b k e) := (HR.out.below hbw2).below (Below.refl _ _).drew
  have HWD : Hid (Wr g w (w1.alloc (.cells #[.slice A N c, .int .i64 (K1 : Nat), .int .i64 E1] 56)).drew) := Wr.of g hbw2.drew
  have hn1 : ¬ w1.heap.size = w.heap.size + 1 + 1 := by omega
  have hn2 : ¬ w.heap.size + 1 + 1 = w1.heap.size := by omega
  have hn3 : ¬ w.heap.size + 1 + 1 = g := by omega
  have hn4 : ¬ w1.heap.size = g := by omega
  have HT : Hid (LiesY (w1.alloc (.cells #[.slice A N c, .int .i64 (K1 : Nat), .int .i64 E1] 56)) g A9 T) := hT.below (((Below.refl _ _).alloc (Nat.le_refl _) _).mono (by omega))
  clear hb hbw hbw2 KU HW HR hT
  go_wp2
  generalize w1.heap.size = G8 at *
  generalize w1.alloc (.cells #[.slice A N c, .int .i64 (K1 : Nat), .int .i64 E1] 56) = w2 at *
  have HB6 : Hid (∀ W, Wr g w2.drew W → Box W (w.heap.size + 1 + 1) #[.slice none 0 0, .int .i64 0, .int .i64 0] 56) := fun W h => h.box (box_drew21 b6) hn3
  have HB8 : Hid (∀ W, Wr g w2.drew W → Box W G8 #[.slice A N c, .int .i64 (K1 : Nat), .int .i64 E1] 56) := fun W h => h.box (box_drew21 b8) hn4
  obtain ⟨v0, v1, v2, -, -, -⟩ := b8.three
  obtain ⟨v0', v1', v2', -, -, -⟩ := (box_drew21 b8).three
  have HB5 : Hid (∀ W, Wr g w2.drew W → Box W (w.heap.size + 1) #[.int .i64 3, .int .i64 m] 60) := fun W h => h.box (box_drew21 b5) hn5
  obtain ⟨t0, t1, -, -⟩ := b5.two
  obtain ⟨t0', t1', -, -⟩ := (box_drew21 b5).two
  clear b5
  have HB8' := Lib.hid b8
  have HB6' := Lib.hid b6
  clear b6 b8
  have HSM : Hid (∀ W A8 c8, Wr g w2.drew W → LiesY W W.heap.size A8 T → Calls Try.prog 36 #[.slice A8 T.length c8, .slice A9 T.length c9] W fun e w' => e = .returned (.bool true) ∧ W = w') := fun W A8 c8 h h8 => ref_SameY T A8 A9 c8 c9 W.heap.size W h8 (((HT.out.below (Below.refl _ _).drew).wr h (Nat.le_of_lt (HRD.out.lt.1))).mono (Nat.le_trans (Nat.le_of_lt (HRD.out.lt.1)) h.size))
  go_region_with (first | (go_at_call 73; refine (KR.out _ HRD.out).mono ?_; rintro r w3 ⟨A8, c8, rfl, g0, g1, g2⟩; have HS3 := Lib.hid (HSM.out _ A8 c8 g2 (liesY_of g0)); have HR3 := Lib.hid g1; have HW3 := Lib.hid g2; obtain ⟨p0, p1, p2, q0, q1, q2⟩ := (HB6.out _ g2).three; obtain ⟨u0, u1, u2, -, -, -⟩ := (HB8.out _ g2).three; obtain ⟨j0, j1, -, -⟩ := (HB5.out _ g2).two; clear g0 g1 g2) | (go_at_call 36; refine Calls.mono HS3.out ?_; rintro r w4 ⟨rfl, rfl⟩))
  all_goals
    go_wp2
    have b3 := HB6.out _ HW3.out
    have s0 := (b3.set 0 (.slice A N c)).cell 0
    have s1 := ((b3.set 0 (.slice A N c)).set 1 (.int .i64 (K1 : Nat))).cell 1
    have s2 := (((b3.set 0 (.slice A N c)).set 1 (.int .i64 (K1 : Nat))).set 2 (.int .i64 E1)).cell 2
    refine bodyPost_ret (v := .tuple #[.agg #[.slice A N c, .int .i64 (K1 : Nat), .int .i64 E1], .bool true]) (by simp [results, Try.results30, go_sem, s0, s1, s2]) rfl ⟨rfl, ?_, ?_⟩
    · exact ((HR3.out.wr (Wr.set (w.heap.size + 1 + 1) 0 _ _) (.inr (by omega))).wr (Wr.set (w.heap.size + 1 + 1) 1 _ _) (.inr (by omega))).wr (Wr.set (w.heap.size + 1 + 1) 2 _ _) (.inr (by omega))
    · exact (((HWD.out.trans HW3.out).setNew (p := ⟨w.heap.size + 1 + 1, 0, none⟩) (by show w.heap.size ≤ w.heap.size + 1 + 1; omega) _).setNew (p := ⟨w.heap.size + 1 + 1, 1, none⟩) (by show w.heap.size ≤ w.heap.size + 1 + 1; omega) _).setNew (p := ⟨w.heap.size + 1 + 1, 2, none⟩) (by show w.heap.size ≤ w.heap.size + 1 + 1; omega) _
set_option maxRecDepth 100000 in
set_option maxHeartbeats 4000000 in
theorem ask21_4 (b : List Int) (A : Option Addr) (c k B g : Nat) (e m : Int) (hm : I64 m) (w : World) (hR : RdAt w B g b k e) (hA : LiesY w g A b) (hbc : b.length ≤ c) (hc : c ≤ 9223372036854775807) : Calls Try.prog 30 #[.pointer (some ⟨g, 0, none⟩), .agg #[.slice A b.length c, .int .i64 (k : Nat), .int .i64 e], .agg #[.int .i64 4, .int .i64 m]] w fun r w' => r = .returned (.tuple #[.agg #[.slice A b.length c, .int .i64 ((rL b k e m).1.1 : Nat), .int .i64 (rL b k e m).1.2], .bool true]) ∧ RdAt w' B g b (rL b k e m).1.1 (rL b k e m).1.2 ∧ Wr g w w' := by
  obtain ⟨hg, hBg, hk, hbl, hby⟩ := hR.lt
  have KU : Hid (∀ W, Below w.heap.size w W → Calls Try.prog 82 #[.agg #[.slice A b.length c, .int .i64 (k : Nat), .int .i64 e], .int .i64 m] W fun r w' => ∃ A2 c2, r = .returned (.tuple #[.agg #[.slice A b.length c, .int .i64 ((rL b k e m).1.1 : Nat), .int .i64 (rL b k e m).1.2], .slice A2 (rL b k e m).2.length c2]) ∧ w'.ownsRow W.heap.size 3 1 (.slice A2 (rL b k e m).2.length c2) (rL b k e m).2.length (litI (rL b k e m).2) ∧ Below W.heap.size W w') := fun W h => ref_ReadL21 b A c k e m hm W ((hA.below (h.mono (Nat.le_of_lt hg))).mono (Nat.le_trans (Nat.le_of_lt hg) h.size)) hby hbl hk
  have KR := Lib.hid (fun W (h : RdAt W B g b k e) => rd_Ints m hm h)
  have HR := Lib.hid hR
  have hW : Below w.heap.size w (((w.alloc (.cells #[.slice A b.length c, .int .i64 (k : Nat), .int .i64 e] 56)).alloc (.cells #[.int .i64 4, .int .i64 m] 60)).alloc (.cells #[.slice none 0 0, .int .i64 0, .int .i64 0] 56)) :=
    (((Below.refl _ _).alloc (Nat.le_refl _) _).alloc (by rw [alloc_size']; omega) _).alloc (by rw [alloc_size', alloc_size']; omega) _
  have HW := Lib.hid hW
  have HLEN : Hid ((rL b k e m).2.length ≤ 1000001) := rL_len hby hbl hk e m
  clear hR hA hW
  generalize (rL b k e m).2 = T at *
  generalize (rL b k e m).1.1 = K1 at *
  generalize (rL b k e m).1.2 = E1 at *
  generalize hN : b.length = N at *
  clear hN
  go_enter Try.func30, Try.ntmps30
  go_wp2_with fail
  refine (KU.out _ HW.out).mono ?_
  rintro r w1 ⟨A9, c9, rfl, hT, hb⟩
  have hz : w.heap.size + 3 ≤ w1.heap.size := by
    have := hb.size
    rw [alloc_size', alloc_size', alloc_size'] at this
    omega
  have hbw := HW.out.trans (hb.mono HW.out.size)
  have b6 : Box (w1.alloc (.cells #[.slice A N c, .int .i64 (K1 : Nat), .int .i64 E1] 56)) (w.heap.size + 1 + 1) #[.slice none 0 0, .int .i64 0, .int .i64 0] 56 := by
    have h0 := Box.new ((w.alloc (.cells #[.slice A N c, .int .i64 (k : Nat), .int .i64 e] 56)).alloc (.cells #[.int .i64 4, .int .i64 m] 60)) #[.slice none 0 0, .int .i64 0, .int .i64 0] 56
    have h1 := (h0.below hb h0.lt).alloc (.cells #[.slice A N c, .int .i64 (K1 : Nat), .int .i64 E1] 56)
    rw [alloc_size', alloc_size'] at h1
    exact h1
  have b5 : Box (w1.alloc (.cells #[.slice A N c, .int .i64 (K1 : Nat), .int .i64 E1] 56)) (w.heap.size + 1) #[.int .i64 4, .int .i64 m] 60 := by
    have h0 := (Box.new (w.alloc (.cells #[.slice A N c, .int .i64 (k : Nat), .int .i64 e] 56)) #[.int .i64 4, .int .i64 m] 60).alloc (.cells #[.slice none 0 0, .int .i64 0, .int .i64 0] 56)
    have h1 := (h0.below hb h0.lt).alloc (.cells #[.slice A N c, .int .i64 (K1 : Nat), .int .i64 E1] 56)
    rw [alloc_size'] at h1
    exact h1
  have hn5 : ¬ w.heap.size + 1 = g := by omega
  have b8 := Box.new w1 #[.slice A N c, .int .i64 (K1 : Nat), .int .i64 E1] 56
  have hbw2 := hbw.alloc hbw.size (.cells #[.slice A N c, .int .i64 (K1 : Nat), .int .i64 E1] 56)
  have HRD : Hid (RdAt (w1.alloc (.cells #[.slice A N c, .int .i64 (K1 : Nat), .int .i64 E1] 56)).drew B g b k e) := (HR.out.below hbw2).below (Below.refl _ _).drew
  have HWD : Hid (Wr g w (w1.alloc (.cells #[.slice A N c, .int .i64 (K1 : Nat), .int .i64 E1] 56)).drew) := Wr.of g hbw2.drew
  have hn1 : ¬ w1.heap.size = w.heap.size + 1 + 1 := by omega
  have hn2 : ¬ w.heap.size + 1 + 1 = w1.heap.size := by omega
  have hn3 : ¬ w.heap.size + 1 + 1 = g := by omega
  have hn4 : ¬ w1.heap.size = g := by omega
  have HT : Hid ((w1.alloc (.cells #[.slice A N c, .int .i64 (K1 : Nat), .int .i64 E1] 56)).ownsRow (w.heap.size + 3) 3 1 (.slice A9 T.length c9) T.length (litI T)) := (by have := ownI_below hT ((Below.refl _ _).alloc (Nat.le_refl _) (.cells #[.slice A N c, .int .i64 (K1 : Nat), .int .i64 E1] 56)); rw [alloc_size', alloc_size', alloc_size'] at this; exact this)
  clear hb hbw hbw2 KU HW HR hT
  go_wp2
  generalize w1.heap.size = G8 at *
  generalize w1.alloc (.cells #[.slice A N c, .int .i64 (K1 : Nat), .int .i64 E1] 56) = w2 at *
  have HB6 : Hid (∀ W, Wr g w2.drew W → Box W (w.heap.size + 1 + 1) #[.slice none 0 0, .int .i64 0, .int .i64 0] 56) := fun W h => h.box (box_drew21 b6) hn3
  have HB8 : Hid (∀ W, Wr g w2.drew W → Box W G8 #[.slice A N c, .int .i64 (K1 : Nat), .int .i64 E1] 56) := fun W h => h.box (box_drew21 b8) hn4
  obtain ⟨v0, v1, v2, -, -, -⟩ := b8.three
  obtain ⟨v0', v1', v2', -, -, -⟩ := (box_drew21 b8).three
  have HB5 : Hid (∀ W, Wr g w2.drew W → Box W (w.heap.size + 1) #[.int .i64 4, .int .i64 m] 60) := fun W h => h.box (box_drew21 b5) hn5
  obtain ⟨t0, t1, -, -⟩ := b5.two
  obtain ⟨t0', t1', -, -⟩ := (box_drew21 b5).two
  clear b5
  have HB8' := Lib.hid b8
  have HB6' := Lib.hid b6
  clear b6 b8
  have HSM : Hid (∀ W A8 c8, Wr g w2.drew W → Lies W W.heap.size A8 T → Calls Try.prog 76 #[.slice A8 T.length c8, .slice A9 T.length c9] W fun e w' => e = .returned (.bool true) ∧ Below W.heap.size W w') := fun W A8 c8 h h8 => by
    have ho := ownI_wr (World.ownsRow.drew HT.out) h (by omega)
    obtain ⟨A7, c7, e7, -, -, g7⟩ := lies_ownI ho
    cases e7
    have := ref_same1 A8 A9 T T c8 c9 W.heap.size W h8 g7 (by have := HLEN.out; omega) (by have := HLEN.out; omega)
    rw [decide_eq_true rfl] at this
    exact this.mono fun e w' h => ⟨h.1, by obtain ⟨n, rfl⟩ := h.2; exact below_drewN2 (Below.refl _ _) n⟩
  go_region_with (first | (go_at_call 74; refine (KR.out _ HRD.out).mono ?_; rintro r w3 ⟨A8, c8, rfl, g0, g1, g2⟩; have HS3 := Lib.hid (HSM.out _ A8 c8 g2 (liesI_of g0)); have HR3 := Lib.hid g1; have HW3 := Lib.hid g2; obtain ⟨p0, p1, p2, q0, q1, q2⟩ := (HB6.out _ g2).three; obtain ⟨u0, u1, u2, -, -, -⟩ := (HB8.out _ g2).three; obtain ⟨j0, j1, -, -⟩ := (HB5.out _ g2).two; clear g0 g1 g2) | (go_at_call 76; refine Calls.mono HS3.out ?_; rintro r w4 ⟨rfl, h4⟩; have HR4 := Lib.hid (HR3.out.below h4); have HW4 := Lib.hid (HW3.out.trans (Wr.of g h4)); clear HR3 HW3; have HR3 := HR4; have HW3 := HW4; obtain ⟨p0, p1, p2, q0, q1, q2⟩ := (HB6.out _ HW3.out).three; obtain ⟨u0, u1, u2, -, -, -⟩ := (HB8.out _ HW3.out).three; obtain ⟨j0, j1, -, -⟩ := (HB5.out _ HW3.out).two; clear h4))
  all_goals
    go_wp2
    have b3 := HB6.out _ HW3.out
    have s0 := (b3.set 0 (.slice A N c)).cell 0
    have s1 := ((b3.set 0 (.slice A N c)).set 1 (.int .i64 (K1 : Nat))).cell 1
    have s2 := (((b3.set 0 (.slice A N c)).set 1 (.int .i64 (K1 : Nat))).set 2 (.int .i64 E1)).cell 2
    refine bodyPost_ret (v := .tuple #[.agg #[.slice A N c, .int .i64 (K1 : Nat), .int .i64 E1], .bool true]) (by simp [results, Try.results30, go_sem, s0, s1, s2]) rfl ⟨rfl, ?_, ?_⟩
    · exact ((HR3.out.wr (Wr.set (w.heap.size + 1 + 1) 0 _ _) (.inr (by omega))).wr (Wr.set (w.heap.size + 1 + 1) 1 _ _) (.inr (by omega))).wr (Wr.set (w.heap.size + 1 + 1) 2 _ _) (.inr (by omega))
    · exact (((HWD.out.trans HW3.out).setNew (p := ⟨w.heap.size + 1 + 1, 0, none⟩) (by show w.heap.size ≤ w.heap.size + 1 + 1; omega) _).setNew (p := ⟨w.heap.size + 1 + 1, 1, none⟩) (by show w.heap.size ≤ w.heap.size + 1 + 1; omega) _).setNew (p := ⟨w.heap.size + 1 + 1, 2, none⟩) (by show w.heap.size ≤ w.heap.size + 1 + 1; omega) _
end Go.Proofs.Ytkfmebdpfjjkjaa
