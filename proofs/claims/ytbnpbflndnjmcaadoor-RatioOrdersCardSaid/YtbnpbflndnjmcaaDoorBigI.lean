/- Contracts of copseref01: Int, Turn, Both, Product, Fits: numbers of any size, with their sign. -/
import Derived.Test.YtbnpbflndnjmcaaDoorBigT
import Derived.Deep.RegionHeld3
namespace Go.Proofs.YtbnpbflndnjmcaaDoor
open Go.RowKit

/-- it gives the number of that sign and that size -/
def GivesW (neg : Bool) (m : Int) (w : World) (e : Ending) (w' : World) : Prop :=
  ∃ A c, e = .returned (.agg #[.bool neg, .slice A (digs m).length c]) ∧ (digs m).length ≤ c ∧ c ≤ maxLen ∧ Lies w' w'.heap.size A (digs m) ∧ Below w.heap.size w w'

theorem Box.drew {w : World} {g : Nat} {cs : Array Value} {t : TypeId} (h : Box w g cs t) : Box w.drew g cs t := h
theorem alloc_size (w : World) (o : Obj) : (w.alloc o).heap.size = w.heap.size + 1 := by simp
theorem drew_size (w : World) : w.drew.heap.size = w.heap.size := rfl
theorem setCell_size (w : World) (p : Addr) (u : Value) : (w.setCell p u).heap.size = w.heap.size := by simp [World.setCell]
/-- how a function ends that stores its result, a Whole, into the result's box -/
theorem gives_stored {neg : Bool} {m : Int} {w w' W : World} {g : Nat} {A A2 : Option Addr} {c n2 c2 : Nat} {b : Bool} {t : TypeId} (hc : (digs m).length ≤ c) (hm : c ≤ maxLen) (hL : Lies w' w'.heap.size A (digs m))
    (hx : Box w' g #[.bool b, .slice A2 n2 c2] t) (hb : Below w.heap.size w w') (hg : w.heap.size ≤ g) (hW : W = (w'.setCell ⟨g, 0, none⟩ (.bool neg)).setCell ⟨g, 1, none⟩ (.slice A (digs m).length c)) :
    GivesW neg m w (.returned (.agg #[.bool neg, .slice A (digs m).length c])) W := by
  subst hW
  refine ⟨A, c, rfl, hc, hm, ?_, ?_⟩
  · rw [setCell_size, setCell_size]; exact hL.stored hx _ _
  · exact (hb.setCell (p := ⟨g, 0, none⟩) hg _).setCell (p := ⟨g, 1, none⟩) hg _

theorem ref_int (n : Int) (hn : I64 n) (w : World) : Calls Tryd.prog 41 #[.int .i64 n] w (GivesW (decide (n < 0)) n.natAbs w) := by
  obtain ⟨h0, h1⟩ := hn
  have hX := Box.new w #[.bool false, .slice none 0 0] 54
  by_cases h : n < 0
  · have e1 : Hid (-(n + 1) + 1 = (n.natAbs : Int)) := by show _ = _; omega
    have e2 : Hid (decide (n < 0) = true) := by show _ = _; simpa using h
    have hU : U64 (-(n + 1) + 1) := by unfold U64; omega
    have HX := Lib.hid hX
    clear hX
    go_enter Tryd.func41, Tryd.ntmps41
    go_wp2_with (go_at_call 60; refine (ref_of (-(n + 1) + 1) hU _).mono ?_; rintro e w' ⟨A, c, rfl, hc, hm, hL, hb⟩; rw [e1.out] at hc hL ⊢; obtain ⟨x0, x1, x2, x3⟩ := (HX.out.below hb (by simp)).two)
    refine bodyPost_ret (v := .agg #[.bool true, .slice A (digs n.natAbs).length c]) (by simp [results, Tryd.results41, go_sem, x0, x1]) rfl ?_
    rw [e2.out]
    exact gives_stored hc hm hL (HX.out.below hb (by simp)) (((Below.refl _ _).alloc (Nat.le_refl _) _).trans (hb.mono (by simp))) (Nat.le_refl _) rfl
  · have e1 : Hid (n = (n.natAbs : Int)) := by show _ = _; omega
    have e2 : Hid (decide (n < 0) = false) := by show _ = _; simpa using h
    have hU : U64 n := by unfold U64; omega
    have HX := Lib.hid hX
    clear hX
    go_enter Tryd.func41, Tryd.ntmps41
    go_wp2_with (go_at_call 60; refine (ref_of n hU _).mono ?_; rintro e w' ⟨A, c, rfl, hc, hm, hL, hb⟩; obtain ⟨x0, x1, x2, x3⟩ := (HX.out.below hb (by simp)).two)
    refine bodyPost_ret (v := .agg #[.bool false, .slice A (digs n).length c]) (by simp [results, Tryd.results41, go_sem, x0, x1]) rfl ?_
    rw [e2.out, ← e1.out]
    exact gives_stored hc hm hL (HX.out.below hb (by simp)) (((Below.refl _ _).alloc (Nat.le_refl _) _).trans (hb.mono (by simp))) (Nat.le_refl _) rfl

theorem ref_turn (neg : Bool) (A : Option Addr) (m c : Nat) (w : World) :
    Calls Tryd.prog 42 #[.agg #[.bool neg, .slice A m c]] w fun e w' => e = .returned (.agg #[.bool (!neg), .slice A m c]) ∧ Below w.heap.size w w' := by
  go_enter Tryd.func42, Tryd.ntmps42
  go_wp2
  refine bodyPost_ret (v := .agg #[.bool (!neg), .slice A m c]) (by simp [results, Tryd.results42, go_sem]) rfl ⟨rfl, ?_⟩
  exact ((Below.refl _ _).alloc (Nat.le_refl _) _).alloc (by simp) _

theorem ref_product (na nb : Bool) (x y : Int) (A A2 : Option Addr) (ca cb : Nat) (w : World) (hx : 0 ≤ x) (hy : 0 ≤ y) (hA : Lies w w.heap.size A (digs x)) (hB : Lies w w.heap.size A2 (digs y)) (hl : (digs x).length + (digs y).length ≤ 100000) :
    Calls Tryd.prog 40 #[.agg #[.bool na, .slice A (digs x).length ca], .agg #[.bool nb, .slice A2 (digs y).length cb]] w (GivesW (na != nb) (x * y) w) := by
  have HE : Hid (val (digs x) * val (digs y) = x * y) := by show _ = _; rw [val_digs x hx, val_digs y hy]
  have DA := dig_digs x
  have DB := dig_digs y
  generalize digs x = la at *
  generalize digs y = lb at *
  have hW : Below w.heap.size w ((((w.alloc (.cells #[.bool na, .slice A la.length ca] 54)).alloc (.cells #[.bool nb, .slice A2 lb.length cb] 54)).alloc (.cells #[.bool false, .slice none 0 0] 54)).drew) :=
    ((((Below.refl _ _).alloc (Nat.le_refl _) _).alloc (by simp) _).alloc (by simp; omega) _).drew
  have hX1 := ((Box.new w #[.bool na, .slice A la.length ca] 54).alloc (.cells #[.bool nb, .slice A2 lb.length cb] 54)).alloc (.cells #[.bool false, .slice none 0 0] 54)
  have hX2 := (Box.new (w.alloc (.cells #[.bool na, .slice A la.length ca] 54)) #[.bool nb, .slice A2 lb.length cb] 54).alloc (.cells #[.bool false, .slice none 0 0] 54)
  have hX3 := Box.new ((w.alloc (.cells #[.bool na, .slice A la.length ca] 54)).alloc (.cells #[.bool nb, .slice A2 lb.length cb] 54)) #[.bool false, .slice none 0 0] 54
  have HT := Lib.hid (ref_times A A2 la lb ca cb _ ((hA.below hW).mono hW.size) ((hB.below hW).mono hW.size) DA DB hl)
  rw [HE.out] at HT
  have HX1 := Lib.hid hX1.drew
  have HX2 := Lib.hid hX2.drew
  have HX3 := Lib.hid hX3.drew
  have HW := Lib.hid hW
  clear hA hB hW hX1 hX2 hX3 HE DA DB
  generalize la.length = N at *
  generalize lb.length = M at *
  have n1 : w.heap.size + 1 + 1 ≠ w.heap.size := by omega
  have n2 : w.heap.size + 1 + 1 ≠ w.heap.size + 1 := by omega
  go_enter Tryd.func40, Tryd.ntmps40
  go_wp2
  go_region_held3 (fun w1 => w1.cell? ⟨w.heap.size, 0, none⟩ = some (.bool na) ∧ w1.cell? ⟨w.heap.size, 1, none⟩ = some (.slice A N ca) ∧ w1.cell? ⟨w.heap.size + 1, 0, none⟩ = some (.bool nb) ∧ w1.cell? ⟨w.heap.size + 1, 1, none⟩ = some (.slice A2 M cb)) (go_keep)
    (first | (go_at_call 59; refine HT.out.mono ?_; rintro e w' ⟨A3, c3, rfl, hc3, hm3, hL3, hb3⟩; obtain ⟨x0, x1, _, _⟩ := (Box.below HX1.out hb3 (by simp only [drew_size, alloc_size]; omega)).two; obtain ⟨y0, y1, _, _⟩ := (Box.below HX2.out hb3 (by simp only [drew_size, alloc_size]; omega)).two; obtain ⟨z0, z1, z2, z3⟩ := (Box.below HX3.out hb3 (by simp only [drew_size, alloc_size]; omega)).two; simp only [alloc_size] at y0 y1 z0 z1 z2 z3))
  have b3 := Box.below HX3.out hb3 (by simp only [drew_size, alloc_size]; omega)
  simp only [alloc_size] at b3
  go_wp2
  refine bodyPost_ret (v := .agg #[.bool (na != nb), .slice A3 (digs (x * y)).length c3]) (by simp [results, Tryd.results40, go_sem, z0, z1, bne]) rfl ?_
  exact gives_stored hc3 hm3 hL3 b3 (HW.out.trans (hb3.mono (by simp only [drew_size, alloc_size]; omega))) (by omega) rfl

/-! ### Both -/
theorem below_of_drew {W w' : World} (h : Below W.drew.heap.size W.drew w') : Below W.heap.size W w' := ⟨h.os, h.tape, h.output, h.size, h.block⟩
theorem below_of_drewN {W w' : World} (q : Nat) (h : Below (W.drewN q).drew.heap.size (W.drewN q).drew w') : Below W.heap.size W w' := ⟨h.os, h.tape, h.output, h.size, h.block⟩
theorem both_same (na nb : Bool) (x y : Int) (A A2 : Option Addr) (ca cb : Nat) (w : World) (hx : 0 ≤ x) (hy : 0 ≤ y) (hA : Lies w w.heap.size A (digs x)) (hB : Lies w w.heap.size A2 (digs y)) (hl : (digs x).length + (digs y).length ≤ 100000) (hs : (na == nb) = true) :
    Calls Tryd.prog 39 #[.agg #[.bool na, .slice A (digs x).length ca], .agg #[.bool nb, .slice A2 (digs y).length cb]] w (GivesW na (x + y) w) := by
  have DA := dig_digs x
  have DB := dig_digs y
  have hW : Below w.heap.size w (((w.alloc (.cells #[.bool na, .slice A (digs x).length ca] 54)).alloc (.cells #[.bool nb, .slice A2 (digs y).length cb] 54)).alloc (.cells #[.bool false, .slice none 0 0] 54)) :=
    (((Below.refl _ _).alloc (Nat.le_refl _) _).alloc (by simp) _).alloc (by simp; omega) _
  have HX1 := Lib.hid (((Box.new w #[.bool na, .slice A (digs x).length ca] 54).alloc (.cells #[.bool nb, .slice A2 (digs y).length cb] 54)).alloc (.cells #[.bool false, .slice none 0 0] 54))
  have HX2 := Lib.hid ((Box.new (w.alloc (.cells #[.bool na, .slice A (digs x).length ca] 54)) #[.bool nb, .slice A2 (digs y).length cb] 54).alloc (.cells #[.bool false, .slice none 0 0] 54))
  have HX3 := Lib.hid (Box.new ((w.alloc (.cells #[.bool na, .slice A (digs x).length ca] 54)).alloc (.cells #[.bool nb, .slice A2 (digs y).length cb] 54)) #[.bool false, .slice none 0 0] 54)
  have HT := Lib.hid (fun (W : World) (h : Below w.heap.size w W) => by have h2 := ref_plus A A2 (digs x) (digs y) ca cb W ((hA.below h).mono h.size) ((hB.below h).mono h.size) DA DB (by omega); rw [val_digs x hx, val_digs y hy] at h2; exact h2)
  have HW := Lib.hid hW
  clear hA hB hW DA DB
  generalize (digs x).length = N at *
  generalize (digs y).length = M at *
  have n1 : w.heap.size + 1 + 1 ≠ w.heap.size := by omega
  have n2 : w.heap.size + 1 + 1 ≠ w.heap.size + 1 := by omega
  go_enter Tryd.func39, Tryd.ntmps39
  go_wp2
  go_region_held3 (fun w1 => w1.cell? ⟨w.heap.size, 0, none⟩ = some (.bool na) ∧ w1.cell? ⟨w.heap.size, 1, none⟩ = some (.slice A N ca) ∧ w1.cell? ⟨w.heap.size + 1, 0, none⟩ = some (.bool nb) ∧ w1.cell? ⟨w.heap.size + 1, 1, none⟩ = some (.slice A2 M cb)) (go_keep)
    (first | (go_at_call 56; refine (HT.out _ (HW.out.drew)).mono ?_; rintro e w' ⟨A3, c3, rfl, hc3, hm3, hL3, hb3⟩; have hb4 := below_of_drew hb3; obtain ⟨x0, x1, _, _⟩ := (Box.below HX1.out hb4 (by simp only [alloc_size]; omega)).two; obtain ⟨y0, y1, _, _⟩ := (Box.below HX2.out hb4 (by simp only [alloc_size]; omega)).two; obtain ⟨z0, z1, z2, z3⟩ := (Box.below HX3.out hb4 (by simp only [alloc_size]; omega)).two; simp only [alloc_size] at y0 y1 z0 z1 z2 z3))
  have b3 := Box.below HX3.out hb4 (by simp only [alloc_size]; omega)
  simp only [alloc_size] at b3
  go_wp2
  refine bodyPost_ret (v := .agg #[.bool na, .slice A3 (digs (x + y)).length c3]) (by simp [results, Tryd.results39, go_sem, z0, z1]) rfl ?_
  exact gives_stored hc3 hm3 hL3 b3 (HW.out.trans (hb4.mono (by simp only [alloc_size]; omega))) (by omega) rfl

theorem both_ge (na nb : Bool) (x y : Int) (A A2 : Option Addr) (ca cb : Nat) (w : World) (hx : 0 ≤ x) (hy : 0 ≤ y) (hA : Lies w w.heap.size A (digs x)) (hB : Lies w w.heap.size A2 (digs y)) (hl : (digs x).length + (digs y).length ≤ 100000) (hs : (na == nb) = false) (hxy : y ≤ x) :
    Calls Tryd.prog 39 #[.agg #[.bool na, .slice A (digs x).length ca], .agg #[.bool nb, .slice A2 (digs y).length cb]] w (GivesW na (x - y) w) := by
  have hcp : 0 ≤ cmpI x y := by unfold cmpI; split <;> first | omega | (split <;> omega)
  have DA := dig_digs x
  have DB := dig_digs y
  have hW : Below w.heap.size w (((w.alloc (.cells #[.bool na, .slice A (digs x).length ca] 54)).alloc (.cells #[.bool nb, .slice A2 (digs y).length cb] 54)).alloc (.cells #[.bool false, .slice none 0 0] 54)) :=
    (((Below.refl _ _).alloc (Nat.le_refl _) _).alloc (by simp) _).alloc (by simp; omega) _
  have HX1 := Lib.hid (((Box.new w #[.bool na, .slice A (digs x).length ca] 54).alloc (.cells #[.bool nb, .slice A2 (digs y).length cb] 54)).alloc (.cells #[.bool false, .slice none 0 0] 54))
  have HX2 := Lib.hid ((Box.new (w.alloc (.cells #[.bool na, .slice A (digs x).length ca] 54)) #[.bool nb, .slice A2 (digs y).length cb] 54).alloc (.cells #[.bool false, .slice none 0 0] 54))
  have HX3 := Lib.hid (Box.new ((w.alloc (.cells #[.bool na, .slice A (digs x).length ca] 54)).alloc (.cells #[.bool nb, .slice A2 (digs y).length cb] 54)) #[.bool false, .slice none 0 0] 54)
  have HT := Lib.hid (fun (W : World) (h : Below w.heap.size w W) => by have h2 := ref_minus A A2 (digs x) (digs y) ca cb W ((hA.below h).mono h.size) ((hB.below h).mono h.size) DA DB (by omega) (by rw [val_digs x hx, val_digs y hy]; exact hxy); rw [val_digs x hx, val_digs y hy] at h2; exact h2)
  have HW := Lib.hid hW
  have HO := Lib.hid (ref_order A A2 x y ca cb w.heap.size _ hx hy (hA.below hW) (hB.below hW) (by omega))
  clear hA hB hW DA DB
  generalize (digs x).length = N at *
  generalize (digs y).length = M at *
  have n1 : w.heap.size + 1 + 1 ≠ w.heap.size := by omega
  have n2 : w.heap.size + 1 + 1 ≠ w.heap.size + 1 := by omega
  go_enter Tryd.func39, Tryd.ntmps39
  go_wp2_with (go_at_call 57; refine HO.out.mono ?_; rintro e w' ⟨rfl, q, rfl⟩)
  go_region_held3 (fun w1 => w1.cell? ⟨w.heap.size, 0, none⟩ = some (.bool na) ∧ w1.cell? ⟨w.heap.size, 1, none⟩ = some (.slice A N ca) ∧ w1.cell? ⟨w.heap.size + 1, 0, none⟩ = some (.bool nb) ∧ w1.cell? ⟨w.heap.size + 1, 1, none⟩ = some (.slice A2 M cb)) (go_keep)
    (first | (go_at_call 58; refine (HT.out _ ((below_drewN HW.out q).drew)).mono ?_; rintro e w' ⟨A3, c3, rfl, hc3, hm3, hL3, hb3⟩; have hb4 := below_of_drewN q hb3; obtain ⟨x0, x1, _, _⟩ := (Box.below HX1.out hb4 (by simp only [alloc_size]; omega)).two; obtain ⟨y0, y1, _, _⟩ := (Box.below HX2.out hb4 (by simp only [alloc_size]; omega)).two; obtain ⟨z0, z1, z2, z3⟩ := (Box.below HX3.out hb4 (by simp only [alloc_size]; omega)).two; simp only [alloc_size] at y0 y1 z0 z1 z2 z3))
  have b3 := Box.below HX3.out hb4 (by simp only [alloc_size]; omega)
  simp only [alloc_size] at b3
  go_wp2
  refine bodyPost_ret (v := .agg #[.bool na, .slice A3 (digs (x - y)).length c3]) (by simp [results, Tryd.results39, go_sem, z0, z1]) rfl ?_
  exact gives_stored hc3 hm3 hL3 b3 (HW.out.trans (hb4.mono (by simp only [alloc_size]; omega))) (by omega) rfl

theorem both_lt (na nb : Bool) (x y : Int) (A A2 : Option Addr) (ca cb : Nat) (w : World) (hx : 0 ≤ x) (hy : 0 ≤ y) (hA : Lies w w.heap.size A (digs x)) (hB : Lies w w.heap.size A2 (digs y)) (hl : (digs x).length + (digs y).length ≤ 100000) (hs : (na == nb) = false) (hxy : x ≤ y) (hne : x < y) :
    Calls Tryd.prog 39 #[.agg #[.bool na, .slice A (digs x).length ca], .agg #[.bool nb, .slice A2 (digs y).length cb]] w (GivesW nb (y - x) w) := by
  have hcp : cmpI x y < 0 := by unfold cmpI; rw [if_pos hne]; omega
  have DA := dig_digs x
  have DB := dig_digs y
  have hW : Below w.heap.size w (((w.alloc (.cells #[.bool na, .slice A (digs x).length ca] 54)).alloc (.cells #[.bool nb, .slice A2 (digs y).length cb] 54)).alloc (.cells #[.bool false, .slice none 0 0] 54)) :=
    (((Below.refl _ _).alloc (Nat.le_refl _) _).alloc (by simp) _).alloc (by simp; omega) _
  have HX1 := Lib.hid (((Box.new w #[.bool na, .slice A (digs x).length ca] 54).alloc (.cells #[.bool nb, .slice A2 (digs y).length cb] 54)).alloc (.cells #[.bool false, .slice none 0 0] 54))
  have HX2 := Lib.hid ((Box.new (w.alloc (.cells #[.bool na, .slice A (digs x).length ca] 54)) #[.bool nb, .slice A2 (digs y).length cb] 54).alloc (.cells #[.bool false, .slice none 0 0] 54))
  have HX3 := Lib.hid (Box.new ((w.alloc (.cells #[.bool na, .slice A (digs x).length ca] 54)).alloc (.cells #[.bool nb, .slice A2 (digs y).length cb] 54)) #[.bool false, .slice none 0 0] 54)
  have HT := Lib.hid (fun (W : World) (h : Below w.heap.size w W) => by have h2 := ref_minus A2 A (digs y) (digs x) cb ca W ((hB.below h).mono h.size) ((hA.below h).mono h.size) DB DA (by omega) (by rw [val_digs x hx, val_digs y hy]; exact hxy); rw [val_digs x hx, val_digs y hy] at h2; exact h2)
  have HW := Lib.hid hW
  have HO := Lib.hid (ref_order A A2 x y ca cb w.heap.size _ hx hy (hA.below hW) (hB.below hW) (by omega))
  clear hA hB hW DA DB
  generalize (digs x).length = N at *
  generalize (digs y).length = M at *
  have n1 : w.heap.size + 1 + 1 ≠ w.heap.size := by omega
  have n2 : w.heap.size + 1 + 1 ≠ w.heap.size + 1 := by omega
  go_enter Tryd.func39, Tryd.ntmps39
  go_wp2_with (go_at_call 57; refine HO.out.mono ?_; rintro e w' ⟨rfl, q, rfl⟩)
  go_region_held3 (fun w1 => w1.cell? ⟨w.heap.size, 0, none⟩ = some (.bool na) ∧ w1.cell? ⟨w.heap.size, 1, none⟩ = some (.slice A N ca) ∧ w1.cell? ⟨w.heap.size + 1, 0, none⟩ = some (.bool nb) ∧ w1.cell? ⟨w.heap.size + 1, 1, none⟩ = some (.slice A2 M cb)) (go_keep)
    (first | (go_at_call 58; refine (HT.out _ ((below_drewN HW.out q).drew)).mono ?_; rintro e w' ⟨A3, c3, rfl, hc3, hm3, hL3, hb3⟩; have hb4 := below_of_drewN q hb3; obtain ⟨x0, x1, _, _⟩ := (Box.below HX1.out hb4 (by simp only [alloc_size]; omega)).two; obtain ⟨y0, y1, _, _⟩ := (Box.below HX2.out hb4 (by simp only [alloc_size]; omega)).two; obtain ⟨z0, z1, z2, z3⟩ := (Box.below HX3.out hb4 (by simp only [alloc_size]; omega)).two; simp only [alloc_size] at y0 y1 z0 z1 z2 z3))
  have b3 := Box.below HX3.out hb4 (by simp only [alloc_size]; omega)
  simp only [alloc_size] at b3
  go_wp2
  refine bodyPost_ret (v := .agg #[.bool nb, .slice A3 (digs (y - x)).length c3]) (by simp [results, Tryd.results39, go_sem, z0, z1]) rfl ?_
  exact gives_stored hc3 hm3 hL3 b3 (HW.out.trans (hb4.mono (by simp only [alloc_size]; omega))) (by omega) rfl

end Go.Proofs.YtbnpbflndnjmcaaDoor
