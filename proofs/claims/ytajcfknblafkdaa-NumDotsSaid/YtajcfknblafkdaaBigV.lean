/- The contract of copseref01.Dot. -/
import Derived.Test.YtajcfknblafkdaaBigS
namespace Go.Proofs.Ytajcfknblafkdaa
open Go.RowKit
theorem ref_dot_ne (A A2 : Option Addr) (la lb c c2 : Nat) (w : World) (hne : la ≠ lb) :
    Calls Try.prog 29 #[.slice A la c, .slice A2 lb c2] w fun e w' => e = .returned (.tuple #[.int .i64 0, .int .i64 1]) ∧ w = w' := by
  have hn2 : ((la : Int) != lb) = true := by simp; omega
  go_enter Try.func29, Try.ntmps29
  go_wp2
  go_ret2
  exact ⟨rfl, rfl⟩
set_option maxHeartbeats 3000000 in
theorem ref_dot (A Ab : Option Addr) (l m : List Int) (c cb : Nat) (w : World) (hl : ∀ x ∈ l, I64 x) (hlm : ∀ x ∈ m, I64 x) (hm : m.length = l.length) (hn : l.length ≤ 1000000000) (hA : Lies w w.heap.size A l) (hAb : Lies w w.heap.size Ab m) :
    Calls Try.prog 29 #[.slice A l.length c, .slice Ab l.length cb] w fun e w' => e = .returned (fitV (dotI l m l.length)) ∧ Below w.heap.size w w' := by
  have HM := Lib.hid hm
  clear hm
  generalize hN : l.length = N at *
  have HN := Lib.hid hN
  clear hN
  go_enter Try.func29, Try.ntmps29
  go_wp2
  go_loopw [7] (fun i wr => ∃ k : Nat, k ≤ N ∧ i = .int .i64 k ∧ HoldsZ wr w.heap.size (dotI l m k) ∧ Below w.heap.size w wr) (fun i _ => N - (intOf i).toNat)
  case atStart => exact ⟨0, by omega, rfl, holdsZ_new w, (Below.refl _ _).alloc (Nat.le_refl _) _⟩
  case round =>
    obtain ⟨k, hk, rfl, ⟨neg, A1, c1, hX, sS, hL⟩, hb⟩ := hrel
    have hs := dotI_bd l m hl hlm k
    have hlen : (digs (dotI l m k).natAbs).length ≤ 16 := len_of_bd (by omega)
    have hlt3 := hX.lt
    obtain ⟨x0, x1, x2, x3⟩ := hX.two
    have HBX := Lib.hid hX
    have HL := Lib.hid hL
    clear hs hX hL
    by_cases hlt : k < N
    · obtain ⟨ad, rfl, hadb, hcell⟩ := lies_at (hA.below hb) (k := k) (by have := HN.out; omega)
      have hadk : (ad.add k).block < wr.heap.size := by rw [add_block]; omega
      obtain ⟨ad2, rfl, hadb2, hcell2⟩ := lies_at (hAb.below hb) (k := k) (by have := HN.out; have := HM.out; omega)
      have hadk2 : (ad2.add k).block < wr.heap.size := by rw [add_block]; omega
      have HX := Lib.hid (getD_i64 hl k)
      have HY := Lib.hid (getD_i64 hlm k)
      have hlx := len_i64 HX.out
      have hly := len_i64 HY.out
      have hlp := len_prod HX.out HY.out
      have HT : Hid (dotI l m (k + 1) = dotI l m k + l.getD k 0 * m.getD k 0) := rfl
      generalize l.getD k 0 = x at *
      generalize m.getD k 0 = y at *
      generalize dotI l m k = S at *
      clear hl hlm hA hAb
      go_wp2
      go_region_with (first | (go_at_call 58; ((with_reducible refine (int_z x HX.out _).mono ?_); rintro e w1 ⟨nb, A2, c2, rfl, s2, L2, b2⟩; have hb1 := below_of_drew b2; obtain ⟨z0, z1, z2, z3⟩ := (HBX.out.below hb1 hlt3).two; have hcell3 := (hb1.cell hadk2).trans hcell2)) | (go_at_call 58; ((with_reducible refine (int_z y HY.out _).mono ?_); rintro e w3 ⟨nc, A4, c4, rfl, s4, L4, b4⟩; have hb5 := hb1.trans (b4.mono hb1.size); obtain ⟨v0, v1, v2, v3⟩ := (HBX.out.below hb5 hlt3).two)) | (go_at_call 62; refine (product_z nb nc x y A2 A4 c2 c4 _ s2 s4 ((L2.below b4).mono b4.size) L4 (by omega)).mono ?_; rintro e w4 ⟨nd, A5, c5, rfl, s5, L5, b5⟩; have hb6 := hb5.trans (b5.mono hb5.size); obtain ⟨t0, t1, t2, t3⟩ := (HBX.out.below hb6 hlt3).two) | (go_at_call 57; refine (both_z neg nd S (x * y) A1 A5 c1 c5 _ sS s5 ((HL.out.below hb6).mono hb6.size) L5 (by omega)).mono ?_; rintro e w2 ⟨ng, A3, c3, rfl, s3, L3, b3⟩; have hb2 := hb6.trans (b3.mono hb6.size); obtain ⟨y0, y1, y2, y3⟩ := (HBX.out.below hb2 hlt3).two))
      all_goals
        go_wp2
        have hbF := ((hb.trans (hb2.mono (by omega))).setCell (p := ⟨w.heap.size, 0, none⟩) (Nat.le_refl _) (.bool ng)).setCell (p := ⟨w.heap.size, 1, none⟩) (Nat.le_refl _) (.slice A3 (digs (S + x * y).natAbs).length c3)
        exact ⟨⟨k + 1, by omega, by go_num, holdsZ_stored (HBX.out.below hb2 hlt3) s3 L3 HT.out, hbF⟩, by simp [intOf]; omega⟩
    · have hS : Hid (dotI l m k = dotI l m N) := by show _ = _; rw [show k = N from by omega]
      generalize dotI l m k = S at *
      clear hl hlm hA hAb
      go_wp2_with (go_at_call 56; refine (fits_z neg S A1 c1 _ sS HL.out (by omega)).mono ?_; rintro e w' ⟨rfl, hb2⟩)
      go_ret2
      rw [hS.out]
      exact ⟨rfl, hb.trans (hb2.mono (by omega))⟩
end Go.Proofs.Ytajcfknblafkdaa
