/- The contract of wide.Text. -/
import Derived.Test.YtbnpbflndnjmcaaWideE
import Derived.Test.YtbnpbflndnjmcaaWideI
import Derived.Test.YtbnpbflndnjmcaaReg
import Derived.Test.YtbnpbflndnjmcaaBigI
import Derived.Laws.IdiomStrings
import Derived.IntWalk
namespace Go.Proofs.Ytbnpbflndnjmcaa
open Go.RowKit

/-- the digits of a number -/
def txt (n : Nat) : List UInt8 := if n < 10 then [UInt8.ofNat (48 + n)] else txt (n / 10) ++ [UInt8.ofNat (48 + n % 10)]
  termination_by n
  decreasing_by omega
theorem txt_small {n : Nat} (h : n < 10) : txt n = [UInt8.ofNat (48 + n)] := by rw [txt, if_pos h]
theorem txt_big {n : Nat} (h : ¬ n < 10) : txt n = txt (n / 10) ++ [UInt8.ofNat (48 + n % 10)] := by rw [txt, if_neg h]

/-- the row of digits, of which those behind place f are written -/
def Row (w : World) (g : Nat) (f : Nat) (suf : List UInt8) : Prop :=
  ∃ cs : Array Value, Box w g cs 59 ∧ cs.size = 39 ∧ suf.length + f = 39 ∧ ∀ j (hj : j < suf.length), cs[f + j]? = some (.int .u8 (suf[j].toNat : Int))
theorem Row.below {w w' : World} {g f : Nat} {suf : List UInt8} (h : Row w g f suf) (hb : Below w.heap.size w w') : Row w' g f suf := by
  obtain ⟨cs, hx, hs, hl, hc⟩ := h
  exact ⟨cs, hx.below hb hx.lt, hs, hl, hc⟩
theorem Row.lt {w : World} {g f : Nat} {suf : List UInt8} (h : Row w g f suf) : g < w.heap.size := by
  obtain ⟨cs, hx, _⟩ := h
  exact hx.lt
theorem Row.cell {w : World} {g f : Nat} {suf : List UInt8} (h : Row w g f suf) (i : Nat) (hi : i < 39) : ∃ v, w.cell? ⟨g, i, none⟩ = some v := by
  obtain ⟨cs, hx, hs, _⟩ := h
  exact ⟨cs[i], by rw [hx.cell i]; exact Array.getElem?_eq_getElem _⟩
theorem Row.free {w : World} {g f : Nat} {suf : List UInt8} (h : Row w g f suf) (i : Nat) : w.frozen? ⟨g, i, none⟩ = false := by
  obtain ⟨cs, hx, hs, _⟩ := h
  exact hx.free i
theorem Row.put {w : World} {g f : Nat} {suf : List UInt8} (h : Row w g (f + 1) suf) (c : UInt8) : Row (w.setCell ⟨g, f, none⟩ (.int .u8 (c.toNat : Int))) g f (c :: suf) := by
  obtain ⟨cs, hx, hs, hl, hc⟩ := h
  refine ⟨_, hx.set f _, by simp [hs], by simp; omega, fun j hj => ?_⟩
  cases j with
  | zero => simp [Array.getElem?_setIfInBounds]; omega
  | succ j =>
    rw [Array.getElem?_setIfInBounds, if_neg (by omega)]
    have := hc j (by simpa using hj)
    rw [show f + (j + 1) = f + 1 + j by omega, this]; rfl
theorem Row.off {w : World} {g f : Nat} {suf : List UInt8} (h : Row w g f suf) {p : Addr} (hp : p.block ≠ g) (u : Value) : Row (w.setCell p u) g f suf := by
  obtain ⟨cs, hx, hs, hl, hc⟩ := h
  exact ⟨cs, hx.off hp u, hs, hl, hc⟩
/-- the text of what is written -/
theorem Row.text {P : Program} {w : World} {g f : Nat} {suf : List UInt8} {src dst e : TypeId} (h : Row w g f suf) (hs : P.underlying src = some (.slice e)) (he : P.underlying e = some (.int .u8)) (hd : P.underlying dst = some .string) (n c : Nat) (hn : n = suf.length) :
    (convert src dst (.slice (some ⟨g, f, none⟩) n c)).run P w = .ok (.string ⟨suf.toArray⟩) w := by
  subst hn
  obtain ⟨cs, hx, hs', hl, hc⟩ := h
  refine run_convert_bytes_back w src dst e ⟨g, f, none⟩ c suf hs he hd fun j hj => ?_
  have h1 : (⟨g, f, none⟩ : Addr).add j = ⟨g, f + j, none⟩ := by unfold Addr.add; split <;> simp_all
  rw [h1, hx.cell (f + j)]
  exact hc j hj

theorem slice_row (g f : Nat) (hf : f ≤ 38) (W : World) : (Instr.sliceAt 59 (.pointer (some ⟨g, 0, none⟩)) (some (.int .i64 f)) none none).run Try.prog W = .ok (.slice (some ⟨g, f, none⟩) (39 - f) (39 - f)) W := by
  have hl : Try.prog.arrayLen 59 = 39 := by kernel_rfl
  have he : Try.prog.elem 59 = 5 := by kernel_rfl
  rw [run_sliceAt_array_l W 59 ⟨g, 0, none⟩ (by kernel_rfl) .i64 f (by omega) (by rw [hl]; omega), hl, he]
  have hs : (sizeOf 5).run Try.prog W = .ok 1 W := by kernel_rfl
  rw [hs]
  simp only [Result.andThen, slicedAt, Int.toNat_natCast]
  rw [if_neg (by omega)]
  have h1 : (⟨g, 0, none⟩ : Addr).add (f * 1) = ⟨g, f, none⟩ := by unfold Addr.add; split <;> simp_all
  rw [h1]

set_option maxHeartbeats 2000000 in
theorem wide_text (h l : Int) (hh : U64 h) (hl : U64 l) (w : World) :
    Calls Try.prog 25 #[.agg #[.int .u64 h, .int .u64 l]] w fun e w' => e = .returned (.string ⟨(txt (wv h l).toNat).toArray⟩) ∧ Below w.heap.size w w' := by
  have HN : Hid (0 ≤ wv h l ∧ wv h l < 1000000000000000000000000000000000000000) := by show _ ∧ _; unfold wv U64 at *; omega
  have HX := Lib.hid (Box.new w #[.int .u64 h, .int .u64 l] 24)
  have HW := Lib.hid ((Below.refl w.heap.size w).alloc (Nat.le_refl _) (.cells #[.int .u64 h, .int .u64 l] 24))
  generalize hT : (txt (wv h l).toNat) = T at *
  have HT : Hid (T = txt (wv h l).toNat ++ []) := by show _ = _; rw [hT, List.append_nil]
  clear hT
  go_enter Try.func25, Try.ntmps25
  go_wp2
  go_loopw [4] (fun iv wr => ∃ (f : Nat) (h l : Int) (suf : List UInt8), f ≤ 38 ∧ iv = .int .i64 f ∧ U64 h ∧ U64 l ∧ Hid (0 ≤ wv h l ∧ wv h l < 10 ^ (f + 1)) ∧ Hid (T = txt (wv h l).toNat ++ suf) ∧ Box wr w.heap.size #[.int .u64 h, .int .u64 l] 24 ∧ Row wr (w.heap.size + 1) (f + 1) suf ∧ Below w.heap.size w wr) (fun iv _ => (intOf iv).toNat)
  case atStart =>
    refine ⟨38, h, l, [], Nat.le_refl _, rfl, hh, hl, ⟨HN.out.1, HN.out.2⟩, HT, HX.out.alloc _, ?_, HW.out.alloc (by simp) _⟩
    have := Box.new (w.alloc (.cells #[.int .u64 h, .int .u64 l] 24)) (Array.replicate 39 (.int .u8 0)) 59
    rw [alloc_size'] at this
    exact ⟨_, this, rfl, rfl, fun j hj => absurd hj (Nat.not_lt_zero j)⟩
  case round =>
    obtain ⟨f, h, l, suf, hf, rfl, uh, ul, hv, hT, hB, hR, hb⟩ := hrel
    obtain ⟨x0, x1, x2, x3⟩ := hB.two
    have XB := Lib.hid hB
    have XR := Lib.hid hR
    have XW := Lib.hid hb
    clear hR hB hb
    obtain ⟨qh, ql, r, uq, ur, hr, hq, KD⟩ : ∃ qh ql r, U64 qh ∧ U64 ql ∧ (0 ≤ r ∧ r ≤ 9) ∧ Hid (wv qh ql = wv h l / 10 ∧ r = wv h l % 10) ∧ Hid (∀ W, Calls Try.prog 18 #[.agg #[.int .u64 h, .int .u64 l], .int .u64 10] W fun e w' => e = .returned (.tuple #[.agg #[.int .u64 qh, .int .u64 ql], .int .u64 r, .int .i64 0]) ∧ Below W.heap.size W w') := by
      have e2 := two_steps h l 10 (by omega)
      have e3 := q2_bd (wv 0 h) l 10 (by omega) ul
      refine ⟨wv 0 h / 10, wv (wv 0 h % 10) l / 10, wv (wv 0 h % 10) l % 10, ?_, ?_, ?_, ⟨e2.1.symm, e2.2.symm⟩, fun W => wide_div h l 10 uh ul (by unfold U64; omega) (by omega) W⟩
      · unfold wv U64 at *; omega
      · unfold U64; exact e3
      · omega
    have e1 : IntKind.u8.wrap r = r := by unfold IntKind.wrap; simp [IntKind.signed, IntKind.bits]; omega
    have e2 : IntKind.u8.wrap (48 + r) = 48 + r := by unfold IntKind.wrap; simp [IntKind.signed, IntKind.bits]; omega
    obtain ⟨c, HC, HT2⟩ : ∃ c : UInt8, Hid ((c.toNat : Int) = 48 + r) ∧ Hid (txt (wv h l).toNat = (if wv qh ql = 0 then [] else txt (wv qh ql).toNat) ++ [c]) := by
      have h0 := hv.out
      obtain ⟨hq1, hq2⟩ := hq.out
      refine ⟨UInt8.ofNat (48 + r.toNat), ?_, ?_⟩
      · show ((UInt8.ofNat (48 + r.toNat)).toNat : Int) = 48 + r
        rw [UInt8.toNat_ofNat_of_lt' (by show _ < 256; omega)]; omega
      · show _ = _
        by_cases hz : wv qh ql = 0
        · rw [if_pos hz, txt_small (by omega), List.nil_append]
          congr 2; omega
        · rw [if_neg hz, txt_big (by omega)]
          congr 2
          · congr 1; omega
          · congr 2; omega
    have XPut : Hid (∀ W, Row W (w.heap.size + 1) (f + 1) suf → Row (W.setCell ⟨w.heap.size + 1, f, none⟩ (.int .u8 (48 + r))) (w.heap.size + 1) f (c :: suf)) := by
      intro W hW
      have := hW.put c
      rw [HC.out] at this
      exact this
    have HLEN : Hid (suf.length + (f + 1) = 39) := by
      obtain ⟨_, _, _, h3, _⟩ := XR.out
      exact h3
    have HOF := Lib.hid (fun W => wide_of 0 W)
    by_cases hz : wv qh ql = 0
    · obtain rfl : qh = 0 := by unfold wv U64 at *; omega
      obtain rfl : ql = 0 := by unfold wv U64 at *; omega
      have HT3 : Hid (T = c :: suf) := by
        have := HT2.out
        rw [if_pos hz] at this
        show _ = _
        rw [hT.out, this]; rfl
      clear hT HT2 hz
      go_wp2_with fail
      refine (KD.out _).mono ?_
      rintro e w2 ⟨rfl, b2⟩
      have XR2 := Lib.hid (XR.out.below b2)
      have XW2 := Lib.hid (XW.out.trans (b2.mono (Nat.le_of_lt XB.out.lt)))
      obtain ⟨cv, hcv⟩ := XR2.out.cell f (by omega)
      have hfz := XR2.out.free f
      have z2 := XR2.out.lt
      clear b2 x0 x1 x2 x3
      go_wp2
      have X5 := Lib.hid (Box.new (w2.setCell ⟨w.heap.size + 1, f, none⟩ (.int .u8 (48 + r))) #[.int .u64 0, .int .u64 0] 24).drew
      simp only [setCell_size] at X5
      obtain ⟨p0, p1, _, _⟩ := X5.out.two
      have R3 : Hid (Row ((w2.setCell ⟨w.heap.size + 1, f, none⟩ (.int .u8 (48 + r))).alloc (.cells #[.int .u64 0, .int .u64 0] 24)).drew (w.heap.size + 1) f (c :: suf)) := (XPut.out _ XR2.out).below ((Below.refl _ _).alloc (Nat.le_refl _) _).drew
      have W3 : Hid (Below w.heap.size w ((w2.setCell ⟨w.heap.size + 1, f, none⟩ (.int .u8 (48 + r))).alloc (.cells #[.int .u64 0, .int .u64 0] 24)).drew) := ((XW2.out.setCell (p := ⟨w.heap.size + 1, f, none⟩) (by simp) _).alloc (by rw [setCell_size]; omega) _).drew
      go_region_held3 (fun w1 => w1.cell? ⟨w2.heap.size, 0, none⟩ = some (.int .u64 0) ∧ w1.cell? ⟨w2.heap.size, 1, none⟩ = some (.int .u64 0)) (go_keep)
        (first
          | (go_at_call 11; ((with_reducible refine (HOF.out _).mono ?_); rintro e w4 ⟨rfl, b4⟩; obtain ⟨p0, p1, _, _⟩ := (X5.out.below b4 X5.out.lt).two; have R4 := Lib.hid (R3.out.below b4); have W4 := Lib.hid (W3.out.trans (b4.mono (Nat.le_of_lt (Nat.lt_of_succ_lt R3.out.lt)))))))
      all_goals
        have htx := R4.out.text (P := Try.prog) (src := 60) (dst := 9) (e := 5) rfl rfl rfl (39 - f) (39 - f) (by have := HLEN.out; simp; omega)
        have hsl := slice_row (w.heap.size + 1) f hf w4
        go_wp2
        go_ret
        exact ⟨by rw [HT3.out]; rfl, W4⟩
    · have HT3 : Hid (T = txt (wv qh ql).toNat ++ (c :: suf)) := by
        have := HT2.out
        rw [if_neg hz] at this
        show _ = _
        rw [hT.out, this, List.append_assoc]; rfl
      obtain ⟨j, rfl⟩ : ∃ j, f = j + 1 := by
        refine ⟨f - 1, ?_⟩
        have := hq.out.1
        have h2 := hv.out.2
        have h3 := hv.out.1
        rcases Nat.eq_zero_or_pos f with rfl | h
        · exfalso; rw [show (0 : Nat) + 1 = 1 from rfl] at h2; simp at h2; omega
        · omega
      have HQ : Hid (0 ≤ wv qh ql ∧ wv qh ql < 10 ^ (j + 1)) := by
        show _ ∧ _
        have := hq.out.1
        have h2 := hv.out
        have h3 : (10 : Int) ^ (j + 1 + 1) = 10 ^ (j + 1) * 10 := Int.pow_succ _ _
        omega
      have hne : (qh == 0) = false ∨ ((qh == 0) = true ∧ (ql == 0) = false) := by
        by_cases h1 : qh = 0
        · right
          have : ql ≠ 0 := fun h2 => hz (by rw [h1, h2]; rfl)
          exact ⟨by simpa using h1, by simpa using this⟩
        · left; simpa using h1
      clear hT HT2 hz
      rcases hne with hne | ⟨hne, hne2⟩
      all_goals
        go_wp2_with fail
        refine (KD.out _).mono ?_
        rintro e w2 ⟨rfl, b2⟩
        have XB2 := Lib.hid (XB.out.below b2 XB.out.lt)
        have XR2 := Lib.hid (XR.out.below b2)
        have XW2 := Lib.hid (XW.out.trans (b2.mono (Nat.le_of_lt XB.out.lt)))
        obtain ⟨cv, hcv⟩ := XR2.out.cell (j + 1) (by omega)
        have hfz := XR2.out.free (j + 1)
        have z2 := XR2.out.lt
        clear b2 x0 x1 x2 x3
        go_wp2
        have X5 := Lib.hid (Box.new (w2.setCell ⟨w.heap.size + 1, j + 1, none⟩ (.int .u8 (48 + r))) #[.int .u64 qh, .int .u64 ql] 24).drew
        simp only [setCell_size] at X5
        obtain ⟨p0, p1, _, _⟩ := X5.out.two
        have R3 : Hid (Row ((w2.setCell ⟨w.heap.size + 1, j + 1, none⟩ (.int .u8 (48 + r))).alloc (.cells #[.int .u64 qh, .int .u64 ql] 24)).drew (w.heap.size + 1) (j + 1) (c :: suf)) := (XPut.out _ XR2.out).below ((Below.refl _ _).alloc (Nat.le_refl _) _).drew
        have B3 : Hid (Box ((w2.setCell ⟨w.heap.size + 1, j + 1, none⟩ (.int .u8 (48 + r))).alloc (.cells #[.int .u64 qh, .int .u64 ql] 24)).drew w.heap.size #[.int .u64 h, .int .u64 l] 24) := ((XB2.out.off (p := ⟨w.heap.size + 1, j + 1, none⟩) (by simp) _).alloc _).drew
        have W3 : Hid (Below w.heap.size w ((w2.setCell ⟨w.heap.size + 1, j + 1, none⟩ (.int .u8 (48 + r))).alloc (.cells #[.int .u64 qh, .int .u64 ql] 24)).drew) := ((XW2.out.setCell (p := ⟨w.heap.size + 1, j + 1, none⟩) (by simp) _).alloc (by rw [setCell_size]; omega) _).drew
        go_region_held3 (fun w1 => w1.cell? ⟨w2.heap.size, 0, none⟩ = some (.int .u64 qh) ∧ w1.cell? ⟨w2.heap.size, 1, none⟩ = some (.int .u64 ql)) (go_keep)
          (first
            | (go_at_call 11; ((with_reducible refine (HOF.out _).mono ?_); rintro e w4 ⟨rfl, b4⟩; obtain ⟨p0, p1, _, _⟩ := (X5.out.below b4 X5.out.lt).two; have B4 := Lib.hid (B3.out.below b4 B3.out.lt); have R4 := Lib.hid (R3.out.below b4); have W4 := Lib.hid (W3.out.trans (b4.mono (Nat.le_of_lt (Nat.lt_of_succ_lt R3.out.lt)))))))
        all_goals
          obtain ⟨x0, x1, x2, x3⟩ := B4.out.two
          go_wp2
          go_roundw
          case rel => exact ⟨j, qh, ql, c :: suf, by omega, by go_num, uq, ur, HQ, HT3, B4.out.set2 _ _, (R4.out.off (p := ⟨w.heap.size, 0, none⟩) (by simp) _).off (p := ⟨w.heap.size, 1, none⟩) (by simp) _, (W4.out.setCell (p := ⟨w.heap.size, 0, none⟩) (by simp) _).setCell (p := ⟨w.heap.size, 1, none⟩) (by simp) _⟩
          case measure => simp [intOf]
end Go.Proofs.Ytbnpbflndnjmcaa
