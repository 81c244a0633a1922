/- From a row's condition of layer 24 to the table of crc; bytes among the arguments. -/
import Derived.Test.YtkfmebdpfjjkjaaDoorRows
import Derived.Test.YtkfmebdpfjjkjaaDoorCrcF
import Derived.Lib.LaidTab
import Derived.LaidMore
import Derived.Stop.Joined
import Derived.Deep.Slices
import Derived.OpenShut
import Derived.ProofKit
namespace Go.Proofs.YtkfmebdpfjjkjaaDoor
open Go.RowKit Go.WideShapes Go.ChangeShapes Go.Joins Go.Deep
set_option linter.unusedVariables false
set_option linter.unusedSimpArgs false
set_option maxRecDepth 100000

def tab24 : List Int := [0, 498536548, 997073096, 651767980, 1994146192, 1802195444, 1303535960, 1342533948, 3988292384, 4027552580, 3604390888, 3412177804, 2607071920, 2262029012, 2685067896, 3183342108]
/-- what the rows of this seat list -/
def lst24 : List (String × DataW Unit) := [("copse/crc.outgoing", Rows.laid_copse_crc_outgoing)]
theorem tab_is24 {H : Type} : (Rows.laid_copse_crc_outgoing : DataW H) = Lib.tabData .u32 tab24 := by
  unfold Rows.laid_copse_crc_outgoing Lib.tabData tab24
  rfl
theorem glob_out : Tryd.prog.globalNamed "copse/crc.outgoing" = some 0 := by kernel_rfl
theorem tab_of24 {W : World} (h : laidMetH Tryd.prog lst24 W) : TabW W := by
  rw [MakeChecks.laidMetH_plain _ _ _ (by kernel_rfl)] at h
  obtain ⟨ps, ⟨g0, t0, cs0, f0, p0, q0, hg0, ht0, hv0, hd0, _, _⟩, _, _⟩ := h
  obtain rfl := Option.some.inj (glob_out.symm.trans hg0)
  have hty : (Tryd.prog.globals[0]?).map (·.type) = some 42 := by kernel_rfl
  obtain rfl := Option.some.inj (hty.symm.trans ht0)
  rw [tab_is24] at hd0
  have hT : Lib.TabIs Tryd.prog W "copse/crc.outgoing" .u32 tab24 := by
    unfold Lib.TabIs
    rw [hv0, ← Lib.cells_of_tab Tryd.underlying42 Tryd.underlying23 (by kernel_rfl) (by kernel_rfl) hd0]
  refine ⟨fun i hi => ?_, ?_⟩
  · have hc := hT.cell glob_out i (by show i < 16; exact hi)
    have e : ∀ k, k < 16 → tab24.getD k 0 = ((tabC.getD k 0 : Nat) : Int) := by decide
    have e2 := e i hi
    first
      | exact hc.trans (by rw [← e2]; rfl)
      | (rw [← e2]; simpa using hc)
  · have hc := hT.cell glob_out 0 (by show 0 < 16; omega)
    exact World.block_lt_of_cell? W ⟨0, 0, none⟩ hc
/-- the door's own heap meets the condition -/
theorem door_met24 (os : Os) (args : Array Value) : laidMetH Tryd.prog lst24 ((World.doorLaid Tryd.prog 400 os).forCall (fun _ _ => 0) ⟨#[], args, []⟩).memory :=
  laidMetH_of_parts3 (fuel := 8) (laidMet_of_run' 8 (by kernel_rfl) (by kernel_rfl)) (by kernel_rfl) (by kernel_rfl)
theorem u32_of_wf {a : Int} (h : (Lit.int .u32 a).wf = true) : 0 ≤ a ∧ a < 4294967296 := by
  simp [Lit.wf, IntKind.min, IntKind.max, IntKind.signed, IntKind.bits] at h
  omega
theorem u16_of_wf {a : Int} (h : (Lit.int .u16 a).wf = true) : 0 ≤ a ∧ a < 65536 := by
  simp [Lit.wf, IntKind.min, IntKind.max, IntKind.signed, IntKind.bits] at h
  omega
section
variable {H : Type} {enc : TypeId × Value → H}
theorem cells_u8 : Tryd.prog.cellsOf 5 = 1 := by kernel_rfl
theorem open_bytes {P : Program} {W : World} {base : Nat} {t e : TypeId} {v : Value} {d : DataW H} {p : List MemPlace} (ht : P.underlying t = some (.slice e)) (he : P.underlying e = some (.int .u8)) (hc : P.cellsOf e = 1)
    (hv : Value.okWide P W .any base t v) (h : DataW.Trod enc P W 0 (fun _ => true) true t v d p) :
    ∃ A l c, v = .slice A l.length c ∧ LiesY W W.heap.size A l ∧ byt l ∧ l.length ≤ c ∧ c ≤ 9223372036854775807 ∧ (A = none → c = 0) := by
  obtain ⟨a0, len, cap, rfl⟩ := okWide_slice ht hv
  obtain ⟨fuel, hf⟩ := h
  rcases open_ints ht he hc hf with ⟨hcs, _⟩ | ⟨a, len', cap', zs, hcs, _, hle, hm, hz, _, hcell, hwz⟩
  · simp [Value.cells] at hcs
    obtain ⟨rfl, rfl, rfl⟩ := hcs
    exact ⟨none, [], 0, rfl, LiesY.nil, (fun x hx => by cases hx), by simp, by simp, fun _ => rfl⟩
  · simp [Value.cells] at hcs
    obtain ⟨rfl, rfl, rfl⟩ := hcs
    simp only [if_true] at hz
    unfold maxLen at hm
    have hlen : (zs.take len).length = len := by rw [List.length_take]; omega
    refine ⟨some a, zs.take len, cap, by rw [hlen], fun h0 => ⟨a, rfl, ?_, fun j hj => ?_⟩, fun x hx => ?_, by omega, by omega, fun e => by cases e⟩
    · have h1 := hcell 0 (by omega)
      have h2 := World.block_lt_of_cell? W (a.add 0) h1
      rw [add_block] at h2
      exact h2
    · rw [hlen] at hj
      rw [hcell j (by omega), List.getD_eq_getElem?_getD, List.getD_eq_getElem?_getD, List.getElem?_take, if_pos hj]
    · have := hwz x (List.mem_of_mem_take hx)
      simp [Lit.wf, IntKind.min, IntKind.max, IntKind.signed, IntKind.bits] at this
      omega
end
end Go.Proofs.YtkfmebdpfjjkjaaDoor
