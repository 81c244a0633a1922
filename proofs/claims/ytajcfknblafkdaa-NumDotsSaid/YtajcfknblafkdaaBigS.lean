/- Contracts of copseref01: Sum and Dot. -/
import Derived.Test.YtajcfknblafkdaaBigA
import Derived.Test.YtajcfknblafkdaaNumD
namespace Go.Proofs.Ytajcfknblafkdaa
open Go.RowKit

/-- box g holds the number S, and its digits lie somewhere else -/
def HoldsZ (w : World) (g : Nat) (S : Int) : Prop :=
  ∃ neg A c, Box w g #[.bool neg, .slice A (digs S.natAbs).length c] 63 ∧ SgnOf neg S ∧ Lies w w.heap.size A (digs S.natAbs)
theorem holdsZ_new (w : World) : HoldsZ (w.alloc (.cells #[.bool false, .slice none 0 0] 63)) w.heap.size 0 :=
  ⟨false, none, 0, by simp only [Int.natAbs_zero]; rw [digs_0 (by decide)]; exact Box.new w _ _, fun h => absurd rfl h, by simp only [Int.natAbs_zero]; rw [digs_0 (by decide)]; exact Lies.nil⟩
theorem holdsZ_stored {w : World} {g : Nat} {S T : Int} {neg : Bool} {A : Option Addr} {c : Nat} {b0 : Bool} {A0 : Option Addr} {n0 c0 : Nat} (hx : Box w g #[.bool b0, .slice A0 n0 c0] 63) (hs : SgnOf neg S) (hL : Lies w w.heap.size A (digs S.natAbs)) (hT : T = S) :
    HoldsZ ((w.setCell ⟨g, 0, none⟩ (.bool neg)).setCell ⟨g, 1, none⟩ (.slice A (digs S.natAbs).length c)) g T := by
  subst hT
  refine ⟨neg, A, c, (heap_setCell_same _ _ _ _ _ _ (heap_setCell_same _ _ _ _ _ _ hx)).trans rfl, hs, ?_⟩
  rw [setCell_size, setCell_size]; exact hL.stored hx _ _
theorem len_of_bd {S : Int} (h : S.natAbs < 340282366920938463463374607431768211456 * 1000000000) : (digs S.natAbs).length ≤ 16 := digs_len _ 16 (by unfold pw; omega)

set_option maxHeartbeats 1000000 in
theorem ref_sum (A : Option Addr) (l : List Int) (c : Nat) (w : World) (hl : ∀ x ∈ l, I64 x) (hn : l.length ≤ 1000000000) (hA : Lies w w.heap.size A l) :
    Calls Try.prog 27 #[.slice A l.length c] w fun e w' => e = .returned (fitV (sumI l)) ∧ Below w.heap.size w w' := by
  generalize hN : l.length = N at *
  have HN := Lib.hid hN
  clear hN
  go_enter Try.func27, Try.ntmps27
  go_wp2
  go_loopw [5] (fun i wr => ∃ k : Nat, k ≤ N ∧ i = .int .i64 k ∧ HoldsZ wr w.heap.size (sumI (l.take k)) ∧ Below w.heap.size w wr) (fun i _ => N - (intOf i).toNat)
  case atStart => exact ⟨0, by omega, rfl, holdsZ_new w, (Below.refl _ _).alloc (Nat.le_refl _) _⟩
  case round =>
    obtain ⟨k, hk, rfl, ⟨neg, A1, c1, hX, sS, hL⟩, hb⟩ := hrel
    have hs := sumI_bd (l.take k) fun x hx => hl x (List.mem_of_mem_take hx)
    have hs2 : (l.take k).length ≤ 1000000000 := by have := HN.out; rw [List.length_take]; omega
    have hlen : (digs (sumI (l.take k)).natAbs).length ≤ 16 := len_of_bd (by omega)
    have hlt3 := hX.lt
    obtain ⟨x0, x1, x2, x3⟩ := hX.two
    have HBX := Lib.hid hX
    have HL := Lib.hid hL
    clear hs hs2 hX hL
    by_cases hlt : k < N
    · obtain ⟨ad, rfl, hadb, hcell⟩ := lies_at (hA.below hb) (k := k) (by have := HN.out; omega)
      have hadk : (ad.add k).block < wr.heap.size := by rw [add_block]; omega
      have HX := Lib.hid (getD_i64 hl k)
      have hlx := len_i64 HX.out
      have HT := Lib.hid (sumI_take l k (by have := HN.out; omega))
      generalize l.getD k 0 = x at *
      generalize sumI (l.take k) = S at *
      clear hl hA
      go_wp2
      go_region_with (first | (go_at_call 58; refine (int_z x HX.out _).mono ?_; rintro e w1 ⟨nb, A2, c2, rfl, s2, L2, b2⟩; have hb1 := below_of_drew b2; obtain ⟨z0, z1, z2, z3⟩ := (HBX.out.below hb1 hlt3).two) | (go_at_call 57; refine (both_z neg nb S x A1 A2 c1 c2 _ sS s2 ((HL.out.below hb1).mono hb1.size) L2 (by omega)).mono ?_; rintro e w2 ⟨ng, A3, c3, rfl, s3, L3, b3⟩; have hb2 := hb1.trans (b3.mono hb1.size); obtain ⟨y0, y1, y2, y3⟩ := (HBX.out.below hb2 hlt3).two))
      all_goals
        go_wp2
        have hbF := ((hb.trans (hb2.mono (by omega))).setCell (p := ⟨w.heap.size, 0, none⟩) (Nat.le_refl _) (.bool ng)).setCell (p := ⟨w.heap.size, 1, none⟩) (Nat.le_refl _) (.slice A3 (digs (S + x).natAbs).length c3)
        exact ⟨⟨k + 1, by omega, by go_num, holdsZ_stored (HBX.out.below hb2 hlt3) s3 L3 HT.out, hbF⟩, by simp [intOf]; omega⟩
    · have hS : Hid (sumI (l.take k) = sumI l) := by
        have := HN.out
        show _ = _
        rw [List.take_of_length_le (by omega)]
      generalize sumI (l.take k) = S at *
      clear hl hA
      go_wp2_with (go_at_call 56; refine (fits_z neg S A1 c1 _ sS HL.out (by omega)).mono ?_; rintro e w' ⟨rfl, hb2⟩)
      go_ret2
      rw [hS.out]
      exact ⟨rfl, hb.trans (hb2.mono (by omega))⟩
end Go.Proofs.Ytajcfknblafkdaa
