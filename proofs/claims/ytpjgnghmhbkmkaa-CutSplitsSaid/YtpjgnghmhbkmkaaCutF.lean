import Derived.Test.YtpjgnghmhbkmkaaCutE
import Derived.Test.YtpjgnghmhbkmkaaDrawF

/-! Layer 9: what the statements ask of every program. -/
namespace Go.Proofs.Ytpjgnghmhbkmkaa
open Go.RowKit
set_option linter.unusedVariables false
set_option linter.unusedSimpArgs false

theorem boxLies {w : World} {g : Nat} {cs : Array Value} {l : List Int} (h : Box w g cs 3) (hc : cs = (litI l).toArray) : Lies w w.heap.size (some ⟨g, 0, none⟩) l := fun _ => by
  refine ⟨⟨g, 0, none⟩, rfl, h.lt, fun j hj => ?_⟩
  have h1 : (⟨g, 0, none⟩ : Addr).add j = ⟨g, j, none⟩ := by unfold Addr.add; split <;> simp_all
  rw [h1, h.cell j, hc]
  rw [← litI_get l j hj]; simp
theorem boxLiesU {w : World} {g : Nat} {cs : Array Value} {l : List Int} (h : Box w g cs 67) (hc : cs = (litu l).toArray) : LiesU w w.heap.size (some ⟨g, 0, none⟩) l := fun _ => by
  refine ⟨⟨g, 0, none⟩, rfl, h.lt, fun j hj => ?_⟩
  have h1 : (⟨g, 0, none⟩ : Addr).add j = ⟨g, j, none⟩ := by unfold Addr.add; split <;> simp_all
  rw [h1, h.cell j, hc]
  rw [← litu_get l j hj]; simp
theorem boxLiesR {w : World} {g : Nat} {cs : Array Value} {R : List Row} (h : Box w g cs 24) (hc : cs = (R.map rowV).toArray) (hr : ∀ r ∈ R, Lies w w.heap.size r.a r.l) : LiesR w w.heap.size (some ⟨g, 0, none⟩) R := by
  refine ⟨fun _ => ⟨⟨g, 0, none⟩, rfl, h.lt, fun j hj => ?_⟩, hr⟩
  have h1 : (⟨g, 0, none⟩ : Addr).add j = ⟨g, j, none⟩ := by unfold Addr.add; split <;> simp_all
  rw [h1, h.cell j, hc]
  simp [List.getD, hj]
abbrev R9 (a b : Option Addr) : List Row := [⟨a, [1, 5], 2⟩, ⟨b, [3, 5], 2⟩]
theorem dv1 (a b : Option Addr) : drw 1 (R9 a b) [0, 1] 0 1 = ([1, 0], 3, 2, true, 0) := by kernel_rfl
theorem dv2 (a : Option Addr) : drw 2 [⟨a, [1, 5], 2⟩] [] 3 1 = ([], 0, 3, false, 0) := by kernel_rfl
theorem dv3 (a b : Option Addr) : lft [1, 0] 3 (R9 a b) = [0] ∧ rgt [1, 0] 3 (R9 a b) = [1] ∧ splC [1, 0] 3 (R9 a b) = 0 := ⟨by kernel_rfl, by kernel_rfl, by kernel_rfl⟩
theorem dv4 : lefB [1, 0] 3 [1, 5] = true ∧ lefC [1, 0] 3 [1, 5] = 0 ∧ samC [1, 0] 3 [1, 0] 3 = true ∧ isC [1, 0] 3 2 = true ∧ isC [1, 0] 3 3 = false := by decide +kernel
theorem okR9 (a b : Option Addr) : OkR (R9 a b) := by
  intro r hr
  simp at hr
  rcases hr with rfl | rfl <;> refine ⟨by simp, by simp, fun x hx => ?_⟩ <;> (simp at hx; unfold I64; omega)
theorem okR91 (a : Option Addr) : OkR [⟨a, [1, 5], 2⟩] := by
  intro r hr
  simp at hr
  subst hr
  refine ⟨by simp, by simp, fun x hx => ?_⟩
  simp at hx; unfold I64; omega
abbrev L9 (s : Nat) : List (Nat × Array Value × TypeId) := [(s + 1 + 1, #[.slice (some ⟨s, 0, none⟩) 2 2, .slice (some ⟨s + 1, 0, none⟩) 2 2], 24), (s + 1, #[.int .i64 3, .int .i64 5], 3), (s, #[.int .i64 1, .int .i64 5], 3)]
theorem l9_rows {B s : Nat} {W w : World} (h : Kpc B W (L9 s) w) : LiesR w w.heap.size (some ⟨s + 1 + 1, 0, none⟩) (R9 (some ⟨s, 0, none⟩) (some ⟨s + 1, 0, none⟩)) ∧ LiesR w w.heap.size (some ⟨s + 1 + 1, 0, none⟩) [⟨some ⟨s, 0, none⟩, [1, 5], 2⟩] ∧ Lies w w.heap.size (some ⟨s, 0, none⟩) [1, 5] := by
  have h1 : Lies w w.heap.size (some ⟨s, 0, none⟩) [1, 5] := boxLies h.tail.tail.head rfl
  have h2 : Lies w w.heap.size (some ⟨s + 1, 0, none⟩) [3, 5] := boxLies h.tail.head rfl
  have h3 : LiesR w w.heap.size (some ⟨s + 1 + 1, 0, none⟩) (R9 (some ⟨s, 0, none⟩) (some ⟨s + 1, 0, none⟩)) := boxLiesR h.head rfl (fun r hr => by
    simp at hr
    rcases hr with rfl | rfl
    · exact h1
    · exact h2)
  refine ⟨h3, ⟨fun _ => ?_, fun r hr => by simp at hr; subst hr; exact h1⟩, h1⟩
  obtain ⟨ad, e, hb, hc⟩ := h3.1 (by simp)
  refine ⟨ad, e, hb, fun j hj => ?_⟩
  obtain rfl : j = 0 := by simp at hj; omega
  exact hc 0 (by simp)
theorem lies_up {w w' : World} {A : Option Addr} {l : List Int} (h : Lies w w.heap.size A l) (hb : Below w.heap.size w w') : Lies w' w'.heap.size A l := (h.below hb).mono hb.size
set_option maxRecDepth 100000 in
set_option maxHeartbeats 8000000 in
theorem lives9 (w : World) : Calls Try.prog 31 #[] w fun e w' => e = .returned (.bool true) ∧ Below w.heap.size w w' := by
  have J0 := Lib.hid (((((Kpc.start w).alloc #[.int .i64 1, .int .i64 5] 3).alloc #[.int .i64 3, .int .i64 5] 3).alloc #[.slice (some ⟨w.heap.size, 0, none⟩) 2 2, .slice (some ⟨w.heap.size + 1, 0, none⟩) 2 2] 24).alloc #[.int .u64 0, .int .u64 1] 67)
  simp only [alloc_size'] at J0
  have KD1 := Lib.hid (fun W A (h : Kpc w.heap.size w (L9 w.heap.size) W) (hu : LiesU W W.heap.size A [0, 1]) => cut_Draw (some ⟨w.heap.size + 1 + 1, 0, none⟩) A (R9 (some ⟨w.heap.size, 0, none⟩) (some ⟨w.heap.size + 1, 0, none⟩)) [0, 1] 2 2 1 0 1 W (l9_rows h).1 (okR9 _ _) hu (fun x hx => by simp at hx; unfold U64; omega) (by simp) (by unfold I64; omega) (by simp) (by simp))
  have KD2 := Lib.hid (fun W (h : Kpc w.heap.size w (L9 w.heap.size) W) => cut_Draw (some ⟨w.heap.size + 1 + 1, 0, none⟩) none [⟨some ⟨w.heap.size, 0, none⟩, [1, 5], 2⟩] [] 2 0 2 3 1 W (l9_rows h).2.1 (okR91 _) LiesU.nil (fun x hx => by simp at hx) (by simp) (by unfold I64; omega) (by simp) (by simp))
  have KS := Lib.hid (fun W A c (h : Kpc w.heap.size w (L9 w.heap.size) W) (hl : Lies W W.heap.size A [1, 0]) (hc : 2 ≤ c) => cut_Split A (some ⟨w.heap.size + 1 + 1, 0, none⟩) [1, 0] (R9 (some ⟨w.heap.size, 0, none⟩) (some ⟨w.heap.size + 1, 0, none⟩)) c 2 3 W hl (l9_rows h).1 (okR9 _ _) (by simp) hc (by simp))
  have KL := Lib.hid (fun W A c (h : Kpc w.heap.size w (L9 w.heap.size) W) (hl : Lies W W.heap.size A [1, 0]) (hc : 2 ≤ c) => cut_Left A (some ⟨w.heap.size, 0, none⟩) [1, 0] [1, 5] c 2 W.heap.size 3 W hl (l9_rows h).2.2 (Nat.le_refl _) (by simp) (by simp) hc (by simp))
  have KM := Lib.hid (fun W A A2 c (hl : Lies W W.heap.size A [1, 0]) (hl2 : Lies W W.heap.size A2 [1, 0]) => cut_Same A A2 [1, 0] [1, 0] c 2 W.heap.size 3 3 W hl hl2 (Nat.le_refl _) (by simp) (by simp))
  have KI2 := Lib.hid (fun W A c (hl : Lies W W.heap.size A [1, 0]) (hc : 2 ≤ c) => cut_Is A [1, 0] c W.heap.size 3 2 W hl (Nat.le_refl _) (by simp) hc)
  have KI3 := Lib.hid (fun W A c (hl : Lies W W.heap.size A [1, 0]) (hc : 2 ≤ c) => cut_Is A [1, 0] c W.heap.size 3 3 W hl (Nat.le_refl _) (by simp) hc)
  have KE0 := Lib.hid (fun W A A2 c (hl : Lies W W.heap.size A [0]) (hl2 : Lies W W.heap.size A2 [0]) => ref_same1 A A2 [0] [0] c 1 W.heap.size W hl hl2 (by simp) (by simp))
  have KE1 := Lib.hid (fun W A A2 c (hl : Lies W W.heap.size A [1]) (hl2 : Lies W W.heap.size A2 [1]) => ref_same1 A A2 [1] [1] c 1 W.heap.size W hl hl2 (by simp) (by simp))
  unfold GivesD at KD1 KD2
  unfold GivesS at KS
  simp only [dv1, dv2, dv3, dv4] at KD1 KD2 KS KL KM KI2 KI3
  simp only [List.length_cons, List.length_nil, decide_true] at KD1 KD2 KS KL KM KI2 KI3 KE0 KE1
  go_enter Try.func31, Try.ntmps31
  go_wp2_with fail
  refine (KD1.out _ _ J0.out.tail (boxLiesU J0.out.head rfl)).mono ?_
  rintro e w1 ⟨A1, c1, rfl, q1, q2, q3, _, b1⟩
  have J1 := Lib.hid ((J0.out.below b1).tail.alloc #[.slice A1 2 c1, .int .i64 3] 40)
  have H1 := Lib.hid (lies_up q3 ((Below.refl _ _).alloc (Nat.le_refl _) (.cells #[.slice A1 2 c1, .int .i64 3] 40)))
  obtain ⟨x0, x1, _, _⟩ := J1.out.head.two
  clear q3 b1
  go_wp2_with fail
  refine (KS.out _ A1 c1 J1.out.tail H1.out q1).mono ?_
  rintro e w2 ⟨Aa, ca, Ab, cb, rfl, r1, r2, r3, r4, r5, r6, _, _, b2⟩
  have J2 := Lib.hid (J1.out.below b2)
  have H2 := Lib.hid (lies_up H1.out b2)
  have HA2 := Lib.hid r5
  have HB2 := Lib.hid r6
  clear r5 r6 b2
  go_wp2
  have J2 := Lib.hid J2.out.drew
  have H2 := Lib.hid (lies_up H2.out (Below.refl _ _).drew)
  have HA2 := Lib.hid (lies_up HA2.out (Below.refl _ _).drew)
  have HB2 := Lib.hid (lies_up HB2.out (Below.refl _ _).drew)
  obtain ⟨x0, x1, _, _⟩ := J2.out.head.two
  have x2 := J2.out.tail.head.two.1
  go_region_held3 (fun W => W.cell? ⟨w1.heap.size, 0, none⟩ = some (.slice A1 2 c1) ∧ W.cell? ⟨w1.heap.size, 1, none⟩ = some (.int .i64 3) ∧ W.cell? ⟨w.heap.size + 1 + 1, 0, none⟩ = some (.slice (some ⟨w.heap.size, 0, none⟩) 2 2)) (go_keep)
    (first
      | (go_at_call 34; ((refine (KL.out _ A1 c1 J2.out.tail H2.out q1).mono ?_); rintro e w3 ⟨rfl, b3⟩; have J2 := Lib.hid (J2.out.below b3); have H2 := Lib.hid (lies_up H2.out b3); have HA2 := Lib.hid (lies_up HA2.out b3); have HB2 := Lib.hid (lies_up HB2.out b3); obtain ⟨x0, x1, _, _⟩ := J2.out.head.two; have x2 := J2.out.tail.head.two.1; clear b3)))
  go_wp2_with fail
  refine (KD2.out _ J2.out.tail).mono ?_
  rintro e w4 ⟨A4, c4, rfl, s1, s2, s3, _, b4⟩
  have bx := b4.trans ((Below.refl w4.heap.size w4).alloc (Nat.le_refl _) (.cells #[.slice A4 0 c4, .int .i64 0] 40) |>.mono b4.size)
  have J4 := Lib.hid (J2.out.below bx)
  have H4 := Lib.hid (lies_up H2.out bx)
  have HA4 := Lib.hid (lies_up HA2.out bx)
  have HB4 := Lib.hid (lies_up HB2.out bx)
  obtain ⟨x3, x4, _, _⟩ := J4.out.head.two
  clear s3 b4 bx
  go_wp2_with fail
  have ba := (Below.refl (w4.alloc (.cells #[.slice A4 0 c4, .int .i64 0] 40)).heap.size (w4.alloc (.cells #[.slice A4 0 c4, .int .i64 0] 40))).alloc (Nat.le_refl _) (.cells #[.int .i64 1, .int .i64 0] 3)
  have J5 := Lib.hid (J4.out.alloc #[.int .i64 1, .int .i64 0] 3)
  have H5 := Lib.hid (lies_up H4.out ba)
  have HA5 := Lib.hid (lies_up HA4.out ba)
  have HB5 := Lib.hid (lies_up HB4.out ba)
  clear ba
  simp only [alloc_size'] at J5
  refine (KM.out _ A1 _ c1 H5.out (boxLies J5.out.head rfl)).mono ?_
  rintro e w5 ⟨rfl, b5⟩
  have J6 := Lib.hid (J5.out.below b5)
  have H6 := Lib.hid (lies_up H5.out b5)
  have HA6 := Lib.hid (lies_up HA5.out b5)
  have HB6 := Lib.hid (lies_up HB5.out b5)
  clear b5
  have J6 := Lib.hid J6.out.tail
  have ba := (Below.refl w5.heap.size w5).alloc (Nat.le_refl _) (.cells #[.int .i64 0] 3)
  have J7 := Lib.hid (J6.out.alloc #[.int .i64 0] 3)
  have H7 := Lib.hid (lies_up H6.out ba)
  have HA7 := Lib.hid (lies_up HA6.out ba)
  have HB7 := Lib.hid (lies_up HB6.out ba)
  clear ba
  go_wp2_with fail
  refine (KE0.out _ Aa _ ca HA7.out (boxLies J7.out.head rfl)).mono ?_
  rintro e w6 ⟨rfl, hw⟩
  have b6 := qdb hw
  have J8 := Lib.hid (J7.out.below b6)
  have H8 := Lib.hid (lies_up H7.out b6)
  have HA8 := Lib.hid (lies_up HA7.out b6)
  have HB8 := Lib.hid (lies_up HB7.out b6)
  clear b6 hw
  have J8 := Lib.hid J8.out.tail
  have ba := (Below.refl w6.heap.size w6).alloc (Nat.le_refl _) (.cells #[.int .i64 1] 3)
  have J9 := Lib.hid (J8.out.alloc #[.int .i64 1] 3)
  have H9 := Lib.hid (lies_up H8.out ba)
  have HA9 := Lib.hid (lies_up HA8.out ba)
  have HB9 := Lib.hid (lies_up HB8.out ba)
  clear ba
  go_wp2_with fail
  refine (KE1.out _ Ab _ cb HB9.out (boxLies J9.out.head rfl)).mono ?_
  rintro e w7 ⟨rfl, hw⟩
  have b7 := qdb hw
  have J10 := Lib.hid (J9.out.below b7)
  have H10 := Lib.hid (lies_up H9.out b7)
  have HA10 := Lib.hid (lies_up HA9.out b7)
  have HB10 := Lib.hid (lies_up HB9.out b7)
  clear b7 hw
  have J10 := Lib.hid J10.out.tail
  obtain ⟨x5, x6, _, _⟩ := J10.out.head.two
  go_wp2_with fail
  refine (KI2.out _ A1 c1 H10.out q1).mono ?_
  rintro e w8 ⟨rfl, b8⟩
  have J11 := Lib.hid (J10.out.below b8)
  have H11 := Lib.hid (lies_up H10.out b8)
  have HA11 := Lib.hid (lies_up HA10.out b8)
  have HB11 := Lib.hid (lies_up HB10.out b8)
  clear b8
  obtain ⟨x7, x8, _, _⟩ := J11.out.head.two
  go_wp2_with fail
  refine (KI3.out _ A1 c1 H11.out q1).mono ?_
  rintro e w9 ⟨rfl, b9⟩
  have J12 := Lib.hid (J11.out.below b9)
  have H12 := Lib.hid (lies_up H11.out b9)
  have HA12 := Lib.hid (lies_up HA11.out b9)
  have HB12 := Lib.hid (lies_up HB11.out b9)
  clear b9
  go_wp2
  go_ret
  exact ⟨rfl, J12.out.2.1⟩
end Go.Proofs.Ytpjgnghmhbkmkaa
