/- From a row's condition to the table that Itoa reads. -/
import Derived.Test.YtndofhcnjmbfeaaDoorRows
import Derived.Test.YtndofhcnjmbfeaaDoorFauQ
import Derived.Lib.LaidTab
import Derived.LaidMore
import Derived.ChangeBears2
import Derived.Stop.Joined
namespace Go.Proofs.YtndofhcnjmbfeaaDoor
open Go.RowKit Go.WideShapes Go.ChangeShapes

/-- what the rows of this seat list -/
def lst4 : List (String × DataW Unit) := [("math/bits.deBruijn32tab", Rows.laid_math_bits_deBruijn32tab), ("math/bits.deBruijn64tab", Rows.laid_math_bits_deBruijn64tab), ("internal/strconv.uint64pow10", Rows.laid_internal_strconv_uint64pow10), ("errors.errorType", Rows.laid_errors_errorType)]
theorem pow_is4 {H : Type} : (Rows.laid_internal_strconv_uint64pow10 : DataW H) = Lib.tabData .u64 Lib.pow10Tab := by
  unfold Rows.laid_internal_strconv_uint64pow10 Lib.tabData Lib.pow10Tab
  rfl
theorem glob_et : Tryd.prog.globalNamed "errors.errorType" = some 0 := by kernel_rfl
theorem one_error : (List.range Tryd.prog.types.size).all (fun t => !(Tryd.prog.rowNamed t [101, 114, 114, 111, 114]) || t == 70) = true := by kernel_rfl
theorem rtype_at : (Tryd.prog.cutTypes.find? (·.1 == "internal/reflectlite.rtype")).map (·.2) = some 107 := by kernel_rfl
theorem et_handle : (Rows.laid_errors_errorType : DataW Unit).handleName? = some [101, 114, 114, 111, 114] := by kernel_rfl
theorem et_funcs : ((Rows.laid_errors_errorType : DataW Unit).funcsIn?).isNone = true := by kernel_rfl
theorem handle_at (t : TypeId) : typeHandle Tryd.prog t = .pointer (some ⟨4, t, none⟩) := by
  unfold typeHandle
  rfl
theorem filt_h : (lst4.filter fun x => x.2.handleName?.isSome) = [("errors.errorType", Rows.laid_errors_errorType)] := rfl
theorem filt_p : (lst4.filter fun x => x.2.handleName?.isNone) = [("math/bits.deBruijn32tab", Rows.laid_math_bits_deBruijn32tab), ("math/bits.deBruijn64tab", Rows.laid_math_bits_deBruijn64tab), ("internal/strconv.uint64pow10", Rows.laid_internal_strconv_uint64pow10)] := rfl
theorem tab_of4 {W : World} (h : laidMetH Tryd.prog lst4 W) : Tab4 W ∧ Glob W ∧ 1 < W.heap.size := by
  unfold laidMetH at h
  rw [filt_h, filt_p] at h
  obtain ⟨h, hh⟩ := h
  have hh := hh _ (List.mem_singleton.2 rfl)
  have hfn : (Rows.laid_errors_errorType : DataW Unit).funcsIn? = none := Option.isNone_iff_eq_none.1 et_funcs
  simp only [hfn] at hh
  obtain ⟨name, u, ty, hn, hu, hty, hrow, hv⟩ := hh
  obtain rfl := Option.some.inj (et_handle.symm.trans hn)
  obtain rfl := Option.some.inj (rtype_at.symm.trans hu)
  have ho := List.all_eq_true.1 one_error ty (List.mem_range.2 hty)
  rw [hrow] at ho
  simp at ho
  subst ho
  have hG : Glob W := by
    unfold Glob
    rw [var?_cell glob_et hv 0, handle_at]
    rfl
  obtain ⟨ps, ⟨g0, t0, cs0, f0, p0, q0, hg0, ht0, hv0, hd0, ⟨g1, t1, cs1, f1, p1, q1, hg1, ht1, hv1, hd1, ⟨g2, t2, cs2, f2, p2, q2, hg2, ht2, hv2, hd2, _, _⟩, _⟩, _⟩, _, _⟩ := h
  obtain rfl := Option.some.inj (glob_tab4.symm.trans hg2)
  have hty : (Tryd.prog.globals[1]?).map (·.type) = some 129 := by kernel_rfl
  obtain rfl := Option.some.inj (hty.symm.trans ht2)
  rw [pow_is4] at hd2
  have hT : Lib.TabIs Tryd.prog W "internal/strconv.uint64pow10" .u64 Lib.pow10Tab := by
    unfold Lib.TabIs
    rw [hv2, ← Lib.cells_of_tab Tryd.underlying129 Tryd.underlying120 (by kernel_rfl) (by kernel_rfl) hd2]
  have hc := hT.cell glob_tab4 0 (by rw [Lib.pow10Tab_length]; omega)
  have hlt := World.block_lt_of_cell? W ⟨1, 0, none⟩ hc
  exact ⟨⟨hT, Nat.lt_of_le_of_lt (Nat.zero_le _) hlt⟩, hG, hlt⟩
/-- the door's own heap meets the condition -/
theorem door_met4 (os : Os) (args : Array Value) : laidMetH Tryd.prog lst4 ((World.doorLaid Tryd.prog 400 os).forCall (fun _ _ => 0) ⟨#[], args, []⟩).memory :=
  laidMetH_of_parts3 (fuel := 8) (laidMet_of_run' 8 (by kernel_rfl) (by kernel_rfl)) (by kernel_rfl) (by kernel_rfl)
end Go.Proofs.YtndofhcnjmbfeaaDoor
