/- Layer 21 (bin): End; what the statements ask of every program. -/
import Derived.Test.YtkfmebdpfjjkjaaBinK
import Derived.Lib.SmallJoins
namespace Go.Proofs.Ytkfmebdpfjjkjaa
open Go.RowKit
set_option linter.unusedVariables false
set_option linter.unusedSimpArgs false

/-- how a reader fails at its end -/
def endE (b : List Int) (k : Nat) (e : Int) : Int := if k < b.length then failE e 211 else e
set_option maxRecDepth 100000 in
set_option maxHeartbeats 2000000 in
theorem rd_End {w : World} {B g k : Nat} {b : List Int} {e0 : Int} (h : RdAt w B g b k e0) : Calls Try.prog 75 #[.pointer (some ⟨g, 0, none⟩)] w fun e w' => e = .returned (.tuple #[]) ∧ RdAt w' B g b k (endE b k e0) ∧ Wr g w w' := by
  have KL := Lib.hid (rd_Left h)
  have KF := Lib.hid (fun n => rd_Fail (h.drewN n) 211)
  have HR := Lib.hid h
  by_cases hk : k < b.length
  · have HE : Hid (endE b k e0 = failE e0 211) := by (show _ = _; unfold endE; rw [if_pos hk])
    have hg : (0 : Int) < ((b.length - k : Nat) : Int) := by omega
    clear h
    generalize b.length - k = r at *
    go_enter Try.func75, Try.ntmps75
    go_wp2_with fail
    refine (KL.out).mono ?_
    rintro e w' ⟨rfl, n, rfl⟩
    go_wp2_with fail
    refine (KF.out n).mono ?_
    rintro e w1 ⟨rfl, h1, h2⟩
    have H1 := Lib.hid h1
    have H2 := Lib.hid ((Wr.drewN g w n).trans h2)
    clear h1 h2
    go_wp2
    go_end0
    rw [HE.out]
    exact ⟨rfl, H1.out, H2.out⟩
  · have HE : Hid (endE b k e0 = e0) := by (show _ = _; unfold endE; rw [if_neg hk])
    have hg : ¬ (0 : Int) < ((b.length - k : Nat) : Int) := by omega
    clear h
    generalize b.length - k = r at *
    go_enter Try.func75, Try.ntmps75
    go_wp2_with fail
    refine (KL.out).mono ?_
    rintro e w' ⟨rfl, n, rfl⟩
    go_wp2
    go_end0
    rw [HE.out]
    exact ⟨rfl, HR.out.drewN n, Wr.drewN g w n⟩
theorem OwnsY.wr {w w' : World} {B g : Nat} {v : Value} {l : List Int} (h : OwnsY w B v l) (hw : Wr g w w') (hg : g < B) : OwnsY w' B v l := h.keep (Nat.le_refl _) (fun j h1 h2 => hw.block j h2 (by omega))
theorem ownI_wr {w w' : World} {B g : Nat} {v : Value} {l : List Int} (h : w.ownsRow B 3 1 v l.length (litI l)) (hw : Wr g w w') (hg : g < B) : w'.ownsRow B 3 1 v l.length (litI l) := ownI_keep h (Nat.le_refl _) (fun j h1 h2 => hw.block j h2 (by omega))
def bs21 : List Int := [241, 1, 0, 3, 2, 97, 98, 2, 10, 1]
theorem v21a : [] ++ uB 256 = [241, 1, 0] ∧ [241, 1, 0] ++ iB (-2) = [241, 1, 0, 3] ∧ [241, 1, 0, 3] ++ tB [97, 98] = [241, 1, 0, 3, 2, 97, 98] ∧ [241, 1, 0, 3, 2, 97, 98] ++ lB [5, -1] = bs21 := by
  refine ⟨?_, ?_, ?_, ?_⟩ <;> simp [uB, iB, tB, lB, fold, beB_pos, beB_0, bs21]
theorem v21b : rU bs21 0 0 = ((3, 0), 256) ∧ rU bs21 3 0 = ((4, 0), 3) ∧ rT bs21 4 0 2 = ((7, 0), [97, 98]) ∧ rL bs21 7 0 2 = ((10, 0), [5, -1]) ∧ endE bs21 10 0 = 0 ∧ rU [240, 239] 0 0 = ((0, 211), 0) ∧ unfoldI 3 = -2 ∧ bs21.length = 10 := by decide +kernel
theorem byt21 : byt bs21 ∧ byt [240, 239] := by
  constructor <;> (intro x hx; simp [bs21] at hx; omega)
theorem box_liesY {W : World} {g : Nat} {cs : Array Value} {l : List Int} {fr : Nat × Nat} (h : W.heap[g]? = some (.cells cs 5 fr)) (hc : cs = (litY l).toArray) : LiesY W W.heap.size (some ⟨g, 0, none⟩) l := fun h0 => by
  have hlt : g < W.heap.size := by
    rcases Nat.lt_or_ge g W.heap.size with h' | h'
    · exact h'
    · rw [Array.getElem?_eq_none h'] at h; cases h
  refine ⟨_, rfl, hlt, fun j hj => ?_⟩
  rw [addr_addY, cell_of_row W g j cs 5 fr h, hc]
  simp [litY, List.getD, hj]
set_option maxRecDepth 100000 in
set_option maxHeartbeats 16000000 in
theorem lives21 (w : World) : Calls Try.prog 28 #[] w fun e w' => e = .returned (.bool true) ∧ Below w.heap.size w w' := by
  obtain ⟨a1, a2, a3, a4⟩ := v21a
  obtain ⟨r1, r2, r3, r4, r5, r6, r7, r8⟩ := v21b
  have KU : Hid (∀ W, Calls Try.prog 70 #[.slice none 0 0, .int .u64 256] W (GivesY [241, 1, 0] W)) := fun W => by
    have := bin_U [] none 0 256 W LiesY.nil (by simp) (by simp) (by omega)
    rw [a1] at this
    exact this
  have KI : Hid (∀ W A c, LiesY W W.heap.size A [241, 1, 0] → 3 ≤ c → Calls Try.prog 69 #[.slice A 3 c, .int .i64 (-2)] W (GivesY [241, 1, 0, 3] W)) := fun W A c h1 h2 => by
    have := bin_I [241, 1, 0] A c (-2) W h1 h2 (by simp) (by unfold I64; omega)
    rw [a2] at this
    exact this
  have KT : Hid (∀ W A c A2 c2, LiesY W W.heap.size A [241, 1, 0, 3] → 4 ≤ c → LiesY W W.heap.size A2 [97, 98] → Calls Try.prog 68 #[.slice A 4 c, .slice A2 2 c2] W (GivesY [241, 1, 0, 3, 2, 97, 98] W)) := fun W A c A2 c2 h1 h2 h3 => by
    have := bin_Text [241, 1, 0, 3] A c [97, 98] A2 c2 W h1 h2 (by simp) h3 (by simp)
    rw [a3] at this
    exact this
  have KL : Hid (∀ W A c A2 c2, LiesY W W.heap.size A [241, 1, 0, 3, 2, 97, 98] → 7 ≤ c → Lies W W.heap.size A2 [5, -1] → Calls Try.prog 67 #[.slice A 7 c, .slice A2 2 c2] W (GivesY bs21 W)) := fun W A c A2 c2 h1 h2 h3 => by
    have := bin_Ints [241, 1, 0, 3, 2, 97, 98] A c [5, -1] A2 c2 W h1 h2 (by simp) h3 (by simp) (by intro x hx; simp at hx; unfold I64; omega)
    rw [a4] at this
    exact this
  have KF : Hid (∀ W A c, LiesY W W.heap.size A bs21 → (A = none → c = 0) → Calls Try.prog 29 #[.slice A 10 c] W fun e w' => (∃ g, e = .returned (.pointer (some ⟨g, 0, none⟩)) ∧ RdAt w' W.heap.size g bs21 0 0) ∧ Below W.heap.size W w') := fun W A c h1 h2 => by
    have := bin_From bs21 A c W h1 h2 (by rw [r8]; omega) byt21.1
    rw [r8] at this
    exact this
  have KF2 : Hid (∀ W A c, LiesY W W.heap.size A [240, 239] → (A = none → c = 0) → Calls Try.prog 29 #[.slice A 2 c] W fun e w' => (∃ g, e = .returned (.pointer (some ⟨g, 0, none⟩)) ∧ RdAt w' W.heap.size g [240, 239] 0 0) ∧ Below W.heap.size W w') := fun W A c h1 h2 => bin_From [240, 239] A c W h1 h2 (by simp) byt21.2
  have R1 : Hid (∀ W B g, RdAt W B g bs21 0 0 → Calls Try.prog 71 #[.pointer (some ⟨g, 0, none⟩)] W fun e w' => e = .returned (.int .u64 256) ∧ RdAt w' B g bs21 3 0 ∧ Wr g W w') := fun W B g h => by
    have := rd_U h
    rw [r1] at this
    exact this
  have R2 : Hid (∀ W B g, RdAt W B g bs21 3 0 → Calls Try.prog 72 #[.pointer (some ⟨g, 0, none⟩)] W fun e w' => e = .returned (.int .i64 (-2)) ∧ RdAt w' B g bs21 4 0 ∧ Wr g W w') := fun W B g h => by
    have := rd_I h
    rw [r2, r7] at this
    exact this
  have R3 : Hid (∀ W B g, RdAt W B g bs21 4 0 → Calls Try.prog 73 #[.pointer (some ⟨g, 0, none⟩), .int .i64 2] W fun e w' => ∃ A c, e = .returned (.slice A 2 c) ∧ OwnsY w' W.heap.size (.slice A 2 c) [97, 98] ∧ RdAt w' B g bs21 7 0 ∧ Wr g W w') := fun W B g h => by
    have := rd_Text 2 (by unfold I64; omega) h
    rw [r3] at this
    exact this
  have R4 : Hid (∀ W B g, RdAt W B g bs21 7 0 → Calls Try.prog 74 #[.pointer (some ⟨g, 0, none⟩), .int .i64 2] W fun e w' => ∃ A c, e = .returned (.slice A 2 c) ∧ w'.ownsRow W.heap.size 3 1 (.slice A 2 c) ([5, -1] : List Int).length (litI [5, -1]) ∧ RdAt w' B g bs21 10 0 ∧ Wr g W w') := fun W B g h => by
    have := rd_Ints 2 (by unfold I64; omega) h
    rw [r4] at this
    exact this
  have R5 : Hid (∀ W B g, RdAt W B g bs21 10 0 → Calls Try.prog 75 #[.pointer (some ⟨g, 0, none⟩)] W fun e w' => e = .returned (.tuple #[]) ∧ RdAt w' B g bs21 10 0 ∧ Wr g W w') := fun W B g h => by
    have := rd_End h
    rw [r5] at this
    exact this
  have R6 : Hid (∀ W B g, RdAt W B g [240, 239] 0 0 → Calls Try.prog 71 #[.pointer (some ⟨g, 0, none⟩)] W fun e w' => e = .returned (.int .u64 0) ∧ RdAt w' B g [240, 239] 0 211 ∧ Wr g W w') := fun W B g h => by
    have := rd_U h
    rw [r6] at this
    exact this
  have R7 : Hid (∀ W B g, RdAt W B g bs21 10 0 → Calls Try.prog 32 #[.pointer (some ⟨g, 0, none⟩)] W fun e w' => e = .returned (.int .i64 0) ∧ Below W.heap.size W w') := fun W B g h => by
    have := rd_Left h
    rw [r8] at this
    exact this.mono fun e w' h => ⟨h.1, by obtain ⟨n, rfl⟩ := h.2; exact below_drewN2 (Below.refl _ _) n⟩
  have R8 := Lib.hid (fun W B g (h : RdAt W B g bs21 10 0) => rd_At h)
  have R9 := Lib.hid (fun W B g (h : RdAt W B g bs21 10 0) => rd_Err h)
  have R10 := Lib.hid (fun W B g (h : RdAt W B g [240, 239] 0 211) => rd_At h)
  have R11 := Lib.hid (fun W B g (h : RdAt W B g [240, 239] 0 211) => rd_Err h)
  have KS : Hid (∀ W A c A2 c2 B, LiesY W B A bs21 → LiesY W B A2 bs21 → Calls Try.prog 36 #[.slice A 10 c, .slice A2 10 c2] W fun e w' => e = .returned (.bool true) ∧ W = w') := fun W A c A2 c2 B h1 h2 => by
    have := ref_SameY bs21 A A2 c c2 B W h1 h2
    rw [r8] at this
    exact this
  have KI2 : Hid (∀ W A c A2 c2, Lies W W.heap.size A [5, -1] → Lies W W.heap.size A2 [5, -1] → Calls Try.prog 76 #[.slice A 2 c, .slice A2 2 c2] W fun e w' => e = .returned (.bool true) ∧ Below W.heap.size W w') := fun W A c A2 c2 h1 h2 => by
    have := ref_same1 A A2 [5, -1] [5, -1] c c2 W.heap.size W h1 h2 (by simp) (by simp)
    rw [decide_eq_true rfl] at this
    exact this.mono fun e w' h => ⟨h.1, by obtain ⟨n, rfl⟩ := h.2; exact below_drewN2 (Below.refl _ _) n⟩
  have kc := fun (w : World) (C : Array Value) (n c g : Nat) (hg : g = w.heap.size) => Go.Joins.run_convert_bytes_const_at (P := Try.prog) w 51 5 C n c g hg Try.underlying51 Try.underlying5
  have HKC := Lib.hid kc
  clear a1 a2 a3 a4 r1 r2 r3 r4 r5 r6 r7 r8 kc
  unfold GivesY at KU KI KT KL
  go_enter Try.func28, Try.ntmps28
  go_wp2_with fail
  refine (KU.out _).mono ?_
  rintro e w1 ⟨⟨v, rfl, h1⟩, h2⟩
  obtain ⟨A1, c1, rfl, g1, -, g3, -, -⟩ := h1.lies
  have K := Lib.hid (KI.out w1 A1 c1 g3 g1)
  have HB := Lib.hid h2
  clear h1 h2 g1 g3 KU KI
  go_wp2_with fail
  refine (K.out).mono ?_
  rintro e w2 ⟨⟨v, rfl, h1⟩, h2⟩
  obtain ⟨A2, c2, rfl, g1, -, g3, -, -⟩ := h1.lies
  have HL2 := Lib.hid g3
  have hc2 := g1
  have HB := Lib.hid (HB.out.trans (h2.mono HB.out.size))
  have q1 := HKC.out w2 #[.int .u8 97, .int .u8 98] 2 2 w2.heap.size rfl
  have hal : Below w2.heap.size w2 (w2.alloc (.cells #[.int .u8 97, .int .u8 98] 5 (2, 3))) := (Below.refl _ _).alloc (Nat.le_refl _) _
  have K := Lib.hid (KT.out _ A2 c2 (some ⟨w2.heap.size, 0, none⟩) 2 (HL2.out.up hal) hc2 (box_liesY (heap_alloc_new w2 _) rfl))
  have HB := Lib.hid (HB.out.trans (hal.mono HB.out.size))
  clear h1 h2 g1 g3 KT hal
  go_wp2_with fail
  refine (K.out).mono ?_
  rintro e w3 ⟨⟨v, rfl, h1⟩, h2⟩
  obtain ⟨A3, c3, rfl, g1, -, g3, -, -⟩ := h1.lies
  have HL3 := Lib.hid g3
  have hc3 := g1
  have HB := Lib.hid (HB.out.trans (h2.mono HB.out.size))
  have hal := (Below.refl w3.heap.size w3).alloc (Nat.le_refl _) (.cells #[.int .i64 5, .int .i64 (-1)] 3)
  have K := Lib.hid (KL.out _ A3 c3 (some ⟨w3.heap.size, 0, none⟩) 2 (HL3.out.up hal) hc3 (boxLies (Box.new w3 _ _) rfl))
  have HB := Lib.hid (HB.out.trans (hal.mono HB.out.size))
  clear h1 h2 g1 g3 KL hal q1 HL2 HL3
  go_wp2_with fail
  refine (K.out).mono ?_
  rintro e w4 ⟨⟨v, rfl, h1⟩, h2⟩
  obtain ⟨A4, c4, e4, g1, -, g3, g4, -⟩ := h1.lies
  rw [show bs21.length = 10 from rfl] at e4
  subst e4
  have HL4 := Lib.hid g3
  have HB := Lib.hid (HB.out.trans (h2.mono HB.out.size))
  have K := Lib.hid (KF.out w4 A4 c4 g3 g4)
  clear h1 h2 g1 g3 g4 KF hc2 hc3
  go_wp2_with fail
  refine (K.out).mono ?_
  rintro e w5 ⟨⟨g, rfl, h1⟩, h2⟩
  have HR := Lib.hid h1
  have HG : Hid (w4.heap.size ≤ g ∧ g < w5.heap.size) := ⟨h1.lt.2.1, h1.lt.1⟩
  have HL4 : Hid (LiesY w5 w4.heap.size A4 bs21) := HL4.out.below h2
  have hs4 : Hid (w.heap.size ≤ w4.heap.size) := HB.out.size
  have HB := Lib.hid (HB.out.trans (h2.mono HB.out.size))
  have hz5 : Hid (w4.heap.size ≤ w5.heap.size) := h2.size
  clear h1 h2 K
  go_wp2_with fail
  refine (R1.out _ _ _ HR.out).mono ?_
  rintro e w6 ⟨rfl, h1, h2⟩
  have HR := Lib.hid h1
  have HL4 := Lib.hid (HL4.out.below (h2.low HG.out.1 hz5.out))
  have HB := Lib.hid (HB.out.trans (h2.low (Nat.le_trans hs4.out HG.out.1) HB.out.size))
  have hz5 : Hid (w4.heap.size ≤ w6.heap.size) := Nat.le_trans hz5.out h2.size
  clear h1 h2
  go_wp2_with fail
  refine (R2.out _ _ _ HR.out).mono ?_
  rintro e w7 ⟨rfl, h1, h2⟩
  have HR := Lib.hid h1
  have HL4 := Lib.hid (HL4.out.below (h2.low HG.out.1 hz5.out))
  have HB := Lib.hid (HB.out.trans (h2.low (Nat.le_trans hs4.out HG.out.1) HB.out.size))
  have hz5 : Hid (w4.heap.size ≤ w7.heap.size) := Nat.le_trans hz5.out h2.size
  clear h1 h2
  go_wp2_with fail
  refine (R3.out _ _ _ HR.out).mono ?_
  rintro e w8 ⟨A8, c8, rfl, h0, h1, h2⟩
  have HT := Lib.hid h0
  have hgt : Hid (g < w7.heap.size) := HR.out.lt.1
  have HR := Lib.hid h1
  have HL4 := Lib.hid (HL4.out.below (h2.low HG.out.1 hz5.out))
  have HB := Lib.hid (HB.out.trans (h2.low (Nat.le_trans hs4.out HG.out.1) HB.out.size))
  have hz5 : Hid (w4.heap.size ≤ w8.heap.size) := Nat.le_trans hz5.out h2.size
  clear h0 h1 h2
  go_wp2_with fail
  refine (R4.out _ _ _ HR.out).mono ?_
  rintro e w9 ⟨A9, c9, rfl, h0, h1, h2⟩
  have HI := Lib.hid h0
  have HT := Lib.hid (HT.out.wr h2 hgt.out)
  have hgi : Hid (g < w8.heap.size) := HR.out.lt.1
  have HR := Lib.hid h1
  have HL4 := Lib.hid (HL4.out.below (h2.low HG.out.1 hz5.out))
  have HB := Lib.hid (HB.out.trans (h2.low (Nat.le_trans hs4.out HG.out.1) HB.out.size))
  have hz5 : Hid (w4.heap.size ≤ w9.heap.size) := Nat.le_trans hz5.out h2.size
  clear h0 h1 h2
  go_wp2_with fail
  refine (R5.out _ _ _ HR.out).mono ?_
  rintro e w10 ⟨rfl, h1, h2⟩
  have HI := Lib.hid (ownI_wr HI.out h2 hgi.out)
  have HT := Lib.hid (HT.out.wr h2 hgt.out)
  have HR := Lib.hid h1
  have HL4 := Lib.hid (HL4.out.below (h2.low HG.out.1 hz5.out))
  have HB := Lib.hid (HB.out.trans (h2.low (Nat.le_trans hs4.out HG.out.1) HB.out.size))
  have hz5 : Hid (w4.heap.size ≤ w10.heap.size) := Nat.le_trans hz5.out h2.size
  have hal := (Below.refl w10.heap.size w10).alloc (Nat.le_refl _) (.cells #[.int .u8 240, .int .u8 239] 5)
  have K := Lib.hid (KF2.out _ (some ⟨w10.heap.size, 0, none⟩) 2 (box_liesY (heap_alloc_new w10 (.cells #[.int .u8 240, .int .u8 239] 5)) rfl) (fun h => by cases h))
  have HI := Lib.hid (ownI_below HI.out hal)
  have HT := Lib.hid (HT.out.below hal)
  have HR := Lib.hid (HR.out.below hal)
  have HL4 := Lib.hid (HL4.out.below (hal.mono hz5.out))
  have HB := Lib.hid (HB.out.trans (hal.mono HB.out.size))
  obtain ⟨A9', c9', e9, -, -, g9⟩ := lies_ownI HI.out
  cases e9
  obtain ⟨A8', c8', e8, -, -, g8, -, -⟩ := OwnsY.lies HT.out
  cases e8
  have hz5 : Hid (w4.heap.size ≤ (w10.alloc (.cells #[.int .u8 240, .int .u8 239] 5)).heap.size) := Nat.le_trans hz5.out hal.size
  clear h1 h2 hal KF2 HI HT hgt hgi
  obtain ⟨S, hS⟩ : ∃ S, S = (w10.alloc (.cells #[.int .u8 240, .int .u8 239] 5)).heap.size := ⟨_, rfl⟩
  have HS := Lib.hid hS
  rw [← hS] at g8 g9 hz5 K
  have HLI := Lib.hid g9
  have HLT := Lib.hid g8
  have hgS : Hid (g < S) := by
    have := HR.out.lt.1
    rw [← hS] at this
    exact this
  clear g8 g9 hS
  go_wp2_with fail
  refine (K.out).mono ?_
  rintro e w11 ⟨⟨g2, rfl, h1⟩, h2⟩
  have HR2 := Lib.hid h1
  have HG2 : Hid (S ≤ g2) := h1.lt.2.1
  have HLI := Lib.hid (HLI.out.below h2)
  have HLT := Lib.hid (HLT.out.below h2)
  have HR := Lib.hid (HR.out.below (by rw [← HS.out]; exact h2))
  have HL4 := Lib.hid (HL4.out.below (h2.mono hz5.out))
  have HB := Lib.hid (HB.out.trans (h2.mono (Nat.le_trans hs4.out hz5.out)))
  have hz11 : Hid (S ≤ w11.heap.size) := by
    have := h2.size
    rw [← HS.out] at this
    exact this
  clear h1 h2 K
  go_wp2_with fail
  refine (R6.out _ _ _ HR2.out).mono ?_
  rintro e w12 ⟨rfl, h1, h2⟩
  have HR2 := Lib.hid h1
  have hb := h2.low HG2.out hz11.out
  have HLI := Lib.hid (HLI.out.below hb)
  have HLT := Lib.hid (HLT.out.below hb)
  have HR := Lib.hid (HR.out.wr h2 (.inr (Nat.lt_of_lt_of_le hgS.out HG2.out)))
  have HL4 := Lib.hid (HL4.out.below (hb.mono hz5.out))
  have HB := Lib.hid (HB.out.trans (hb.mono (Nat.le_trans hs4.out hz5.out)))
  have hz12 : Hid (S ≤ w12.heap.size) := Nat.le_trans hz11.out hb.size
  have hal := (Below.refl w12.heap.size w12).alloc (Nat.le_refl _) (.cells #[.int .u8 241, .int .u8 1, .int .u8 0, .int .u8 3, .int .u8 2, .int .u8 97, .int .u8 98, .int .u8 2, .int .u8 10, .int .u8 1] 5)
  have HLL := Lib.hid (box_liesY (l := bs21) (heap_alloc_new w12 (.cells #[.int .u8 241, .int .u8 1, .int .u8 0, .int .u8 3, .int .u8 2, .int .u8 97, .int .u8 98, .int .u8 2, .int .u8 10, .int .u8 1] 5)) rfl)
  have K := Lib.hid (KS.out _ A4 c4 _ 10 _ ((HL4.out.below (hal.mono (Nat.le_trans hz5.out hz12.out))).mono (Nat.le_trans (Nat.le_trans hz5.out hz12.out) hal.size)) HLL.out)
  have HLI := Lib.hid (HLI.out.below (hal.mono hz12.out))
  have HLT := Lib.hid (HLT.out.below (hal.mono hz12.out))
  have HR := Lib.hid (HR.out.below hal)
  have HR2 := Lib.hid (HR2.out.below hal)
  have hz : w.heap.size ≤ w12.heap.size := Nat.le_trans (Nat.le_trans hs4.out hz5.out) hz12.out
  have HB := Lib.hid (HB.out.trans (hal.mono hz))
  have q : (convert 51 9 (.slice A8 2 c8)).run Try.prog (w12.alloc (.cells #[.int .u8 241, .int .u8 1, .int .u8 0, .int .u8 3, .int .u8 2, .int .u8 97, .int .u8 98, .int .u8 2, .int .u8 10, .int .u8 1] 5)) = .ok (.string ⟨#[97, 98]⟩) (w12.alloc (.cells #[.int .u8 241, .int .u8 1, .int .u8 0, .int .u8 3, .int .u8 2, .int .u8 97, .int .u8 98, .int .u8 2, .int .u8 10, .int .u8 1] 5)) := conv_y _ A8 [97, 98] c8 _ HLT.out
  have hs1 := hal.size
  clear h1 h2 hb KS HL4 HLL HLT hz5 hz11 HG HG2 hs4
  go_wp2_with fail
  refine (K.out).mono ?_
  rintro e w13 ⟨rfl, rfl⟩
  generalize hW : w12.alloc (.cells #[.int .u8 241, .int .u8 1, .int .u8 0, .int .u8 3, .int .u8 2, .int .u8 97, .int .u8 98, .int .u8 2, .int .u8 10, .int .u8 1] 5) = w13 at *
  have hal2 := (Below.refl w13.heap.size w13).alloc (Nat.le_refl _) (.cells #[.int .i64 5, .int .i64 (-1)] 3)
  have hS13 : S ≤ w13.heap.size := Nat.le_trans hz12.out hs1
  have K2 := Lib.hid (KI2.out _ A9 c9 (some ⟨w13.heap.size, 0, none⟩) 2 ((HLI.out.below (hal2.mono hS13)).mono (Nat.le_trans hS13 hal2.size)) (boxLies (Box.new w13 _ _) rfl))
  have HR := Lib.hid (HR.out.below hal2)
  have HR2 := Lib.hid (HR2.out.below hal2)
  have HB := Lib.hid (HB.out.trans (hal2.mono (Nat.le_trans hz hs1)))
  clear hal hal2 hW KI2 HLI K
  go_wp2_with fail
  refine (K2.out).mono ?_
  rintro e w14 ⟨rfl, hb⟩
  have HR := Lib.hid (HR.out.below hb)
  have HR2 := Lib.hid (HR2.out.below hb)
  have HB := Lib.hid (HB.out.trans (hb.mono HB.out.size))
  clear hb q K2
  go_wp2_with fail
  refine (R9.out _ _ _ HR.out).mono ?_
  rintro e w15 ⟨rfl, rfl⟩
  go_wp2_with fail
  refine (R8.out _ _ _ HR.out).mono ?_
  rintro e w15 ⟨rfl, rfl⟩
  go_wp2_with fail
  refine (R7.out _ _ _ HR.out).mono ?_
  rintro e w15 ⟨rfl, hb⟩
  have HR2 := Lib.hid (HR2.out.below hb)
  have HB := Lib.hid (HB.out.trans (hb.mono HB.out.size))
  clear hb
  go_wp2_with fail
  refine (rd_Err_nil _).mono ?_
  rintro e w16 ⟨rfl, rfl⟩
  go_wp2_with fail
  refine (rd_U_nil _).mono ?_
  rintro e w16 ⟨rfl, hb⟩
  have HR2 := Lib.hid (HR2.out.below hb)
  have HB := Lib.hid (HB.out.trans (hb.mono HB.out.size))
  clear hb
  go_wp2_with fail
  refine (R11.out _ _ _ HR2.out).mono ?_
  rintro e w17 ⟨rfl, rfl⟩
  go_wp2_with fail
  refine (R10.out _ _ _ HR2.out).mono ?_
  rintro e w17 ⟨rfl, rfl⟩
  go_wp2
  go_ret
  exact ⟨rfl, HB.out⟩
end Go.Proofs.Ytkfmebdpfjjkjaa
