/- The contract of copseref02.Fits. -/
import Derived.Test.YtbnpbflndnjmcaaWideB
namespace Go.Proofs.Ytbnpbflndnjmcaa
open Go.RowKit

def hiAt (l : List Int) (k : Nat) : Int := val (l.drop (max k 4))
def loAt (l : List Int) (k : Nat) : Int := val ((l.take 4).drop k)
theorem val_bd {l : List Int} (h : Dig l) (k : Nat) (hk : l.length ≤ k) : 0 ≤ val l ∧ val l < pw k :=
  ⟨val_nonneg h, Int.lt_of_lt_of_le (val_lt h) (pw_mono hk)⟩
theorem hiAt_bd {l : List Int} (h : Dig l) (hl : l.length ≤ 8) (k : Nat) : U64 (hiAt l k) := by
  have := val_bd (dig_drop h (max k 4)) 4 (by rw [List.length_drop]; omega)
  unfold hiAt U64
  unfold pw at this; omega
theorem loAt_bd {l : List Int} (h : Dig l) (k : Nat) : U64 (loAt l k) := by
  have := val_bd (dig_drop (dig_take h 4) k) 4 (by rw [List.length_drop, List.length_take]; omega)
  unfold loAt U64
  unfold pw at this; omega
theorem at_high (l : List Int) (k : Nat) (hk : k < l.length) (h4 : 4 ≤ k) : hiAt l k = hiAt l (k + 1) * 65536 + l.getD k 0 ∧ loAt l k = loAt l (k + 1) := by
  unfold hiAt loAt
  rw [Nat.max_eq_left h4, Nat.max_eq_left (by omega), val_drop l k hk]
  refine ⟨by omega, ?_⟩
  rw [val_drop_ge _ k (by rw [List.length_take]; omega), val_drop_ge _ (k + 1) (by rw [List.length_take]; omega)]
theorem at_low (l : List Int) (k : Nat) (hk : k < l.length) (h4 : k < 4) : hiAt l k = hiAt l (k + 1) ∧ loAt l k = loAt l (k + 1) * 65536 + l.getD k 0 := by
  unfold hiAt loAt
  rw [Nat.max_eq_right (by omega), Nat.max_eq_right (by omega), val_drop (l.take 4) k (by rw [List.length_take]; omega)]
  refine ⟨rfl, ?_⟩
  have : (l.take 4).getD k 0 = l.getD k 0 := by
    rw [List.getD_eq_getElem?_getD, List.getD_eq_getElem?_getD, List.getElem?_take, if_pos h4]
  rw [this]; omega
theorem at_end (l : List Int) : wv (hiAt l 0) (loAt l 0) = val l := by
  unfold hiAt loAt
  rw [List.drop_zero, Nat.max_eq_right (by omega)]
  show val (l.drop 4) * 18446744073709551616 + val (l.take 4) = val l
  rcases Nat.lt_or_ge l.length 4 with h | h
  · rw [val_drop_ge l 4 (by omega), List.take_of_length_le (by omega)]; omega
  · have h1 := val_append (l.take 4) (l.drop 4)
    rw [List.take_append_drop, List.length_take, Nat.min_eq_left h] at h1
    rw [h1]; unfold pw; omega
theorem at_start (l : List Int) : hiAt l l.length = 0 ∧ loAt l l.length = 0 := by
  unfold hiAt loAt
  rw [List.drop_eq_nil_of_le (by omega), List.drop_eq_nil_of_le (by rw [List.length_take]; omega)]
  exact ⟨rfl, rfl⟩

/-- what Fits answers of a number -/
def FitsW (n : Int) (w : World) (e : Ending) (w' : World) : Prop :=
  (if n < 340282366920938463463374607431768211456 then ∃ h l, U64 h ∧ U64 l ∧ wv h l = n ∧ e = .returned (.tuple #[.agg #[.int .u64 h, .int .u64 l], .int .i64 0]) else e = .returned (.tuple #[.agg #[.int .u64 0, .int .u64 0], .int .i64 10])) ∧ Below w.heap.size w w'

set_option maxHeartbeats 1000000 in
theorem ref_wfits (n : Int) (hn : 0 ≤ n) (A : Option Addr) (c : Nat) (w : World) (hA : Lies w w.heap.size A (digs n)) (hlen : (digs n).length ≤ 1000) :
    Calls Try.prog 32 #[.slice A (digs n).length c] w (FitsW n w) := by
  by_cases hlt : n < 340282366920938463463374607431768211456
  · have h8 : (digs n).length ≤ 8 := digs_len _ 8 (by unfold pw; omega)
    have DM := dig_digs n
    have HV := Lib.hid (val_digs n hn)
    have HQ : Hid (∀ e w' h l, U64 h → U64 l → wv h l = n → e = .returned (.tuple #[.agg #[.int .u64 h, .int .u64 l], .int .i64 0]) → Below w.heap.size w w' → FitsW n w e w') := by
      intro e w' h l a b c d f
      unfold FitsW
      rw [if_pos hlt]
      exact ⟨⟨h, l, a, b, c, d⟩, f⟩
    have HA := Lib.hid hA
    generalize FitsW n w = Q at *
    clear hA hlt hn
    generalize digs n = l at *
    have HE := Lib.hid (at_end l)
    have HS := Lib.hid (at_start l)
    generalize hN : l.length = N at *
    have HN := Lib.hid hN
    clear hN
    go_enter Try.func32, Try.ntmps32
    go_wp2
    go_loopw [5] (fun iv wr => ∃ (k : Nat) (v : Int), k ≤ N ∧ iv = .int .i64 v ∧ Hid (v = k - 1) ∧ Box wr w.heap.size #[.int .u64 0, .int .u64 0] 24 ∧ Box wr (w.heap.size + 1) #[.int .u64 (hiAt l k), .int .u64 (loAt l k)] 24 ∧ Below w.heap.size w wr) (fun iv _ => (intOf iv + 1).toNat)
    case atStart =>
      refine ⟨N, _, by omega, rfl, rfl, ?_, ?_, ?_⟩
      · exact (Box.new w _ _).alloc _
      · rw [HS.out.1, HS.out.2]
        have := Box.new (w.alloc (.cells #[.int .u64 0, .int .u64 0] 24)) #[.int .u64 0, .int .u64 0] 24
        rw [alloc_size'] at this
        exact this
      · exact ((Below.refl _ _).alloc (Nat.le_refl _) _).alloc (by simp) _
    case round =>
      obtain ⟨k, v, hk, rfl, Hv, hR, hB, hb⟩ := hrel
      obtain ⟨x0, x1, x2, x3⟩ := hB.two
      rcases Nat.eq_zero_or_pos k with rfl | hk0
      · obtain rfl : v = -1 := Hv.out
        obtain ⟨y0, y1, y2, y3⟩ := hR.two
        have HX := Lib.hid hB
        have HY := Lib.hid hR
        have HB := Lib.hid hb
        have U1 := Lib.hid (hiAt_bd DM (by have := HN.out; omega) 0)
        have U2 := Lib.hid (loAt_bd DM 0)
        clear hB hR hb
        generalize hiAt l 0 = h0 at *
        generalize loAt l 0 = l0 at *
        go_wp2
        have r0 : ((wr.setCell ⟨w.heap.size, 0, none⟩ (.int .u64 h0)).setCell ⟨w.heap.size, 1, none⟩ (.int .u64 l0)).heap[w.heap.size]? = some (.cells #[.int .u64 h0, .int .u64 l0] 24 (0, 0)) := (heap_setCell_same _ _ _ _ _ _ (heap_setCell_same _ _ _ _ _ _ HY.out)).trans rfl
        obtain ⟨z0, z1, _, _⟩ := Box.two r0
        refine bodyPost_ret (v := .tuple #[.agg #[.int .u64 h0, .int .u64 l0], .int .i64 0]) ?_ rfl ?_
        · simp [results, Try.results32, go_sem, z0, z1]
        · exact HQ.out _ _ h0 l0 U1.out U2.out (HE.out.trans HV.out) rfl ((HB.out.setCell (p := ⟨w.heap.size, 0, none⟩) (Nat.le_refl _) _).setCell (p := ⟨w.heap.size, 1, none⟩) (Nat.le_refl _) _)
      · obtain ⟨j, rfl⟩ : ∃ j, k = j + 1 := ⟨k - 1, by omega⟩
        obtain rfl : v = (j : Int) := by have := Hv.out; omega
        obtain ⟨ad, rfl, hadb, hcell⟩ := lies_at (HA.out.below hb) (k := j) (by have := HN.out; omega)
        have hd := dig_getD DM j
        have HX := Lib.hid hB
        have HY := Lib.hid hR
        have HB := Lib.hid hb
        have u1 := hiAt_bd DM (by have := HN.out; omega) (j + 1)
        have u2 := loAt_bd DM (j + 1)
        have v1 := hiAt_bd DM (by have := HN.out; omega) j
        have v2 := loAt_bd DM j
        unfold U64 at u1 u2 v1 v2
        clear hB hR hb
        rcases Nat.lt_or_ge j 4 with h4 | h4
        · have h := at_low l j (by have := HN.out; omega) h4
          rw [h.1] at v1
          rw [h.2] at v2
          have H := Lib.hid h
          clear h
          generalize l.getD j 0 = d at *
          generalize hiAt l (j + 1) = h1 at *
          generalize loAt l (j + 1) = l1 at *
          go_wp2
          go_region_with (fail)
          all_goals
            go_wp2
            refine ⟨⟨j, _, by omega, rfl, rfl, ?_, ?_, ?_⟩, by simp [intOf]⟩
            · exact (HY.out.below ((Below.refl (w.heap.size + 1) wr).setCell (p := ⟨w.heap.size + 1, 1, none⟩) (Nat.le_refl _) _) (by omega)).drew
            · rw [H.out.1, H.out.2]
              exact ((heap_setCell_same _ _ _ _ _ _ HX.out).trans rfl)
            · exact (HB.out.setCell (p := ⟨w.heap.size + 1, 1, none⟩) (by simp) _).drew
        · have h := at_high l j (by have := HN.out; omega) h4
          rw [h.1] at v1
          rw [h.2] at v2
          have H := Lib.hid h
          clear h
          generalize l.getD j 0 = d at *
          generalize hiAt l (j + 1) = h1 at *
          generalize loAt l (j + 1) = l1 at *
          go_wp2
          go_region_with (fail)
          all_goals
            go_wp2
            refine ⟨⟨j, _, by omega, rfl, rfl, ?_, ?_, ?_⟩, by simp [intOf]⟩
            · exact (HY.out.below ((Below.refl (w.heap.size + 1) wr).setCell (p := ⟨w.heap.size + 1, 0, none⟩) (Nat.le_refl _) _) (by omega)).drew
            · rw [H.out.1, H.out.2]
              exact ((heap_setCell_same _ _ _ _ _ _ HX.out).trans rfl)
            · exact (HB.out.setCell (p := ⟨w.heap.size + 1, 0, none⟩) (by simp) _).drew
  · have h9 := digs_len_ge n 8 (by unfold pw; omega)
    have HQ : Hid (∀ e w', e = .returned (.tuple #[.agg #[.int .u64 0, .int .u64 0], .int .i64 10]) → Below w.heap.size w w' → FitsW n w e w') := by
      intro e w' d f
      unfold FitsW
      rw [if_neg hlt]
      exact ⟨d, f⟩
    generalize FitsW n w = Q at *
    clear hA hlt hn
    generalize (digs n).length = N at *
    have hR := Box.new w #[.int .u64 0, .int .u64 0] 24
    have hb := ((Below.refl w.heap.size w).alloc (Nat.le_refl _) (.cells #[.int .u64 0, .int .u64 0] 24))
    obtain ⟨y0, y1, y2, y3⟩ := hR.two
    have HY := Lib.hid hR
    have HB := Lib.hid hb
    clear hR hb
    go_enter Try.func32, Try.ntmps32
    go_wp2
    refine bodyPost_ret (v := .tuple #[.agg #[.int .u64 0, .int .u64 0], .int .i64 10]) ?_ rfl ?_
    · simp [results, Try.results32, go_sem, y0, y1]
    · exact HQ.out _ _ rfl HB.out

theorem wfits_of {n : Int} (h1 : n < 340282366920938463463374607431768211456) {w w' : World} {e : Ending} (h : FitsW n w e w') :
    e = .returned (.tuple #[.agg #[.int .u64 (n / 18446744073709551616), .int .u64 (n % 18446744073709551616)], .int .i64 0]) ∧ Below w.heap.size w w' := by
  unfold FitsW at h
  rw [if_pos h1] at h
  obtain ⟨⟨a, b, ha, hb, hv, he⟩, hB⟩ := h
  refine ⟨?_, hB⟩
  have hv' : a * 18446744073709551616 + b = n := hv
  unfold U64 at ha hb
  obtain rfl : a = n / 18446744073709551616 := by omega
  obtain rfl : b = n % 18446744073709551616 := by omega
  exact he
theorem wfits_over {n : Int} (h1 : 340282366920938463463374607431768211456 ≤ n) {w w' : World} {e : Ending} (h : FitsW n w e w') :
    e = .returned (.tuple #[.agg #[.int .u64 0, .int .u64 0], .int .i64 10]) ∧ Below w.heap.size w w' := by
  unfold FitsW at h
  rw [if_neg (by omega)] at h
  exact h
end Go.Proofs.Ytbnpbflndnjmcaa
