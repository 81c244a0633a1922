/- What the statements of layer 4 ask of every program. -/
import Derived.Test.YtndofhcnjmbfeaaDoorFauX
namespace Go.Proofs.YtndofhcnjmbfeaaDoor
open Go.RowKit Go.Extern.Stop Go.Stop Go.Extern
set_option linter.unusedVariables false
set_option linter.unusedSimpArgs false

theorem isf_code (w : World) (op : ByteArray) (n c : Int) : IsFault (w.alloc (.cells #[codedV op n c] 74)) (.code op n c) w.heap.size := ⟨_, Box.new _ _ _, rfl⟩
theorem isf_wrap {w : World} {t : FT} {b : Nat} (h : IsFault w t b) (op : ByteArray) (n : Int) : IsFault (w.alloc (.cells #[wrapV op n (some ⟨b, 0, none⟩)] 74)) (.wrap op n t) w.heap.size := by
  obtain ⟨u, hx, hp⟩ := h.below ((Below.refl _ _).alloc (Nat.le_refl _) (.cells #[wrapV op n (some ⟨b, 0, none⟩)] 74))
  exact ⟨_, Box.new _ _ _, b, u, rfl, hx, hp⟩
theorem isf_both {w : World} {x y : FT} {a b : Nat} (h : IsFault w x a) (g : IsFault w y b) : IsFault (w.alloc (.cells #[bothV (some ⟨a, 0, none⟩) (some ⟨b, 0, none⟩)] 74)) (.both x y) w.heap.size := by
  obtain ⟨u, hx, hp⟩ := h.below ((Below.refl _ _).alloc (Nat.le_refl _) (.cells #[bothV (some ⟨a, 0, none⟩) (some ⟨b, 0, none⟩)] 74))
  obtain ⟨u', hx', hp'⟩ := g.below ((Below.refl _ _).alloc (Nat.le_refl _) (.cells #[bothV (some ⟨a, 0, none⟩) (some ⟨b, 0, none⟩)] 74))
  exact ⟨_, Box.new _ _ _, a, b, u, u', rfl, ⟨hx, hp⟩, hx', hp'⟩
abbrev sAsk : ByteArray := ⟨#[97, 115, 107]⟩
abbrev sDraw : ByteArray := ⟨#[100, 114, 97, 119]⟩
abbrev sX : ByteArray := ⟨#[120]⟩
def tE : FT := .wrap sAsk 3 (.code sDraw (-1) 61)
def tF : FT := .both tE (.code sX 0 6)
theorem lf1 : codeF tE = 61 ∧ hasF (.code 61) tE = true ∧ hasF (.code 60) tE = false ∧ hasF (.cls 2) tE = true ∧ codeF tF = 61 ∧ hasF (.cls 4) tF = true ∧ clN 1 = 1 ∧ (stepsF tE).length = 2 := by decide +kernel
theorem lf2 : textF tE = ⟨#[97, 115, 107, 32, 51, 62, 100, 114, 97, 119, 61, 54, 49]⟩ := by kernel_rfl
theorem lf3 : okT tE := by
  unfold tE okT
  refine ⟨by unfold I64; omega, by decide, ?_⟩
  unfold okT
  exact ⟨by unfold I64; omega, by unfold I64; omega, by decide⟩
/-- what the calls of lives know -/
def St4 (w0 : World) (b1 b2 : Nat) (w : World) : Prop := (Below w0.heap.size w0 w ∧ w0.heap.size ≤ w.heap.size) ∧ (Glob w ∧ Tab4 w ∧ 1 < w.heap.size) ∧ IsFault w tE b1 ∧ IsFault w tF b2
theorem St4.below {w0 w w' : World} {b1 b2 : Nat} (h : St4 w0 b1 b2 w) (hb : Below w.heap.size w w') : St4 w0 b1 b2 w' := by
  obtain ⟨⟨h1, h1'⟩, ⟨h2, h3, h4⟩, h5, h6⟩ := h
  exact ⟨⟨h1.trans (hb.mono h1'), Nat.le_trans h1' hb.size⟩, ⟨h2.below (by omega) hb, h3.below hb h4, Nat.lt_of_lt_of_le h4 hb.size⟩, h5.below hb, h6.below hb⟩
set_option maxRecDepth 100000 in
set_option maxHeartbeats 8000000 in
theorem lives4 (w : World) (hT : Tab4 w ∧ Glob w ∧ 1 < w.heap.size) : Calls Tryd.prog 5 #[] w fun e w' => e = .returned (.bool true) ∧ Below w.heap.size w w' := by
  have JX : Hid (St4 w (w.heap.size + 1) (w.heap.size + 1 + 1 + 1) ((((w.alloc (.cells #[codedV sDraw (-1) 61] 74)).alloc (.cells #[wrapV sAsk 3 (some ⟨w.heap.size, 0, none⟩)] 74)).alloc (.cells #[codedV sX 0 6] 74)).alloc (.cells #[bothV (some ⟨w.heap.size + 1, 0, none⟩) (some ⟨w.heap.size + 1 + 1, 0, none⟩)] 74))) := by
    have e1 := isf_wrap (isf_code w sDraw (-1) 61) sAsk 3
    rw [alloc_size'] at e1
    have bb : ∀ (W : World) o, Below W.heap.size W (W.alloc o) := fun W o => (Below.refl _ _).alloc (Nat.le_refl _) o
    have e2 := e1.below (bb _ (.cells #[codedV sX 0 6] 74))
    have e3 := isf_code ((w.alloc (.cells #[codedV sDraw (-1) 61] 74)).alloc (.cells #[wrapV sAsk 3 (some ⟨w.heap.size, 0, none⟩)] 74)) sX 0 6
    rw [alloc_size', alloc_size'] at e3
    have e4 := isf_both e2 e3
    rw [alloc_size', alloc_size', alloc_size'] at e4
    have e5 := e2.below (bb _ (.cells #[bothV (some ⟨w.heap.size + 1, 0, none⟩) (some ⟨w.heap.size + 1 + 1, 0, none⟩)] 74))
    have b4 : Below w.heap.size w ((((w.alloc (.cells #[codedV sDraw (-1) 61] 74)).alloc (.cells #[wrapV sAsk 3 (some ⟨w.heap.size, 0, none⟩)] 74)).alloc (.cells #[codedV sX 0 6] 74)).alloc (.cells #[bothV (some ⟨w.heap.size + 1, 0, none⟩) (some ⟨w.heap.size + 1 + 1, 0, none⟩)] 74)) :=
      (((((Below.refl _ _).alloc (Nat.le_refl _) _).alloc (by rw [alloc_size']; omega) _).alloc (by rw [alloc_size', alloc_size']; omega) _).alloc (by rw [alloc_size', alloc_size', alloc_size']; omega) _)
    refine ⟨⟨b4, b4.size⟩, ⟨hT.2.1.below (by omega) b4, hT.1.below b4 hT.2.2, Nat.lt_of_lt_of_le hT.2.2 b4.size⟩, e5, e4⟩
  obtain ⟨f1, f2, f3, f4, f5, f6, f7, f8⟩ := lf1
  have KN1 := Lib.hid (fun W => fau_new sDraw (-1) 61 (by decide) W)
  have KW1 := Lib.hid (fun W => fau_wrap sAsk 3 ⟨w.heap.size, 0, none⟩ W)
  have KN2 := Lib.hid (fun W => fau_new sX 0 6 (by decide) W)
  have KB := Lib.hid (fun W => fau_both ⟨w.heap.size + 1, 0, none⟩ ⟨w.heap.size + 1 + 1, 0, none⟩ W)
  have KC1 := Lib.hid (fun W (h : St4 w (w.heap.size + 1) (w.heap.size + 1 + 1 + 1) W) => fau_code tE _ W h.2.2.1 h.2.1.1)
  have KC2 := Lib.hid (fun W (h : St4 w (w.heap.size + 1) (w.heap.size + 1 + 1 + 1) W) => fau_code tF _ W h.2.2.2 h.2.1.1)
  have KH1 := Lib.hid (fun W (h : St4 w (w.heap.size + 1) (w.heap.size + 1 + 1 + 1) W) => fau_Has tE _ W h.2.2.1 h.2.1.1 (by decide) 61)
  have KH2 := Lib.hid (fun W (h : St4 w (w.heap.size + 1) (w.heap.size + 1 + 1 + 1) W) => fau_Has tE _ W h.2.2.1 h.2.1.1 (by decide) 60)
  have KO1 := Lib.hid (fun W (h : St4 w (w.heap.size + 1) (w.heap.size + 1 + 1 + 1) W) => fau_Of tE _ W h.2.2.1 h.2.1.1 (by decide) 2)
  have KO2 := Lib.hid (fun W (h : St4 w (w.heap.size + 1) (w.heap.size + 1 + 1 + 1) W) => fau_Of tF _ W h.2.2.2 h.2.1.1 (by decide) 4)
  have KT := Lib.hid (fun W (h : St4 w (w.heap.size + 1) (w.heap.size + 1 + 1 + 1) W) => fau_text tE _ W h.2.2.1 h.2.1.2.1 h.2.1.2.2 (by decide) (by rw [lf2]; decide) lf3)
  have KS := Lib.hid (fun W (h : St4 w (w.heap.size + 1) (w.heap.size + 1 + 1 + 1) W) => fau_steps tE _ W h.2.2.1 (by decide))
  have KN0 := Lib.hid (fun W => fau_new0 sX 0 W)
  have KW0 := Lib.hid (fun W => fau_wrap0 sX 0 W)
  have KL := Lib.hid (fun W => fau_class 1 W)
  rw [f1] at KC1
  rw [f5] at KC2
  rw [f2] at KH1
  rw [f3] at KH2
  rw [f4] at KO1
  rw [f6] at KO2
  rw [f7] at KL
  rw [f8] at KS
  rw [lf2] at KT
  clear hT f1 f2 f3 f4 f5 f6 f7 f8
  go_enter Tryd.func5, Tryd.ntmps5
  go_wp2_with fail
  refine (KN1.out _).mono ?_
  rintro e w1 ⟨rfl, rfl⟩
  go_wp2_with fail
  refine (KW1.out _).mono ?_
  rintro e w1 ⟨rfl, rfl⟩
  go_wp2_with fail
  refine (KN2.out _).mono ?_
  rintro e w1 ⟨rfl, rfl⟩
  go_wp2_with fail
  refine (KB.out _).mono ?_
  rintro e w1 ⟨rfl, rfl⟩
  go_wp2_with fail
  refine (KC1.out _ JX.out).mono ?_
  rintro e w1 ⟨rfl, b1⟩
  have J1 := Lib.hid (JX.out.below b1)
  clear b1
  go_wp2_with fail
  refine (KH1.out _ J1.out).mono ?_
  rintro e w2 ⟨rfl, b2⟩
  have J2 := Lib.hid (J1.out.below b2)
  clear b2
  go_wp2_with fail
  refine (KH2.out _ J2.out).mono ?_
  rintro e w3 ⟨rfl, b3⟩
  have J3 := Lib.hid (J2.out.below b3)
  clear b3
  go_wp2_with fail
  refine (KO1.out _ J3.out).mono ?_
  rintro e w4 ⟨rfl, b4⟩
  have J4 := Lib.hid (J3.out.below b4)
  clear b4
  go_wp2_with fail
  refine (KT.out _ J4.out).mono ?_
  rintro e w5 ⟨rfl, b5⟩
  have J5 := Lib.hid (J4.out.below b5)
  clear b5
  go_wp2_with fail
  refine (KS.out _ J5.out).mono ?_
  rintro e w6 ⟨v6, rfl, ho6, b6⟩
  have J6 := Lib.hid (J5.out.below b6)
  obtain ⟨A6, c6, rfl⟩ := pc_shape ho6
  clear b6 ho6
  go_wp2_with fail
  refine (KN0.out _).mono ?_
  rintro e w7 ⟨rfl, rfl⟩
  go_wp2_with fail
  refine (KW0.out _).mono ?_
  rintro e w7 ⟨rfl, rfl⟩
  go_wp2_with fail
  refine (KC2.out _ J6.out).mono ?_
  rintro e w7 ⟨rfl, b7⟩
  have J7 := Lib.hid (J6.out.below b7)
  clear b7
  go_wp2_with fail
  refine (KO2.out _ J7.out).mono ?_
  rintro e w8 ⟨rfl, b8⟩
  have J8 := Lib.hid (J7.out.below b8)
  clear b8
  go_wp2_with fail
  refine (KL.out _).mono ?_
  rintro e w9 ⟨rfl, rfl⟩
  go_wp2
  go_ret
  exact ⟨rfl, J8.out.1.1⟩
end Go.Proofs.YtndofhcnjmbfeaaDoor
