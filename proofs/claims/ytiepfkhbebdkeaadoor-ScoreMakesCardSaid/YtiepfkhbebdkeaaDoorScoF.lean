/- From a row's condition of layer 13 to the table and the errors of strconv; scores among the arguments. -/
import Derived.Test.YtiepfkhbebdkeaaDoorRows
import Derived.Test.YtiepfkhbebdkeaaDoorScoG
import Derived.Lib.LaidTab
import Derived.LaidMore
import Derived.Stop.Joined
import Derived.Deep.Slices
namespace Go.Proofs.YtiepfkhbebdkeaaDoor
open Go.RowKit Go.WideShapes Go.ChangeShapes Go.Joins Go.Deep
set_option linter.unusedVariables false
set_option linter.unusedSimpArgs false
set_option maxRecDepth 100000

/-- what the rows of this seat list -/
def lst13 : List (String × DataW Unit) := [("math/bits.deBruijn32tab", Rows.laid_math_bits_deBruijn32tab), ("math/bits.deBruijn64tab", Rows.laid_math_bits_deBruijn64tab), ("internal/strconv.uint64pow10", Rows.laid_internal_strconv_uint64pow10), ("strconv.ErrRange", Rows.laid_strconv_ErrRange), ("strconv.ErrSyntax", Rows.laid_strconv_ErrSyntax)]
theorem pow_is13 {H : Type} : (Rows.laid_internal_strconv_uint64pow10 : DataW H) = Lib.tabData .u64 Lib.pow10Tab := by
  unfold Rows.laid_internal_strconv_uint64pow10 Lib.tabData Lib.pow10Tab
  rfl
theorem glob_rng : Tryd.prog.globalNamed "strconv.ErrRange" = some 2 := by kernel_rfl
theorem glob_syn : Tryd.prog.globalNamed "strconv.ErrSyntax" = some 1 := by kernel_rfl
theorem iface_of {W : World} {t : TypeId} {fuel : Nat} {cs : List Value} {n : String} {d : DataW Unit} {p : List MemPlace} (ht : ∃ M, Tryd.prog.underlying t = some (.interface M)) (hd : DataW.trod (fun _ => ()) Tryd.prog W 0 (fun _ => true) false fuel t cs = some (.iface n d, p)) : ∃ u v, cs = [.iface u v] := by
  obtain ⟨M, ht⟩ := ht
  cases fuel with
  | zero => simp [DataW.trod] at hd
  | succ k =>
    unfold DataW.trod at hd
    rw [ht] at hd
    split at hd <;> first | (cases hd; done) | exact ⟨_, _, rfl⟩ | simp_all
theorem tab_of13 {W : World} (h : laidMetH Tryd.prog lst13 W) : Tab W ∧ Ers W := by
  rw [MakeChecks.laidMetH_plain _ _ _ (by kernel_rfl)] at h
  obtain ⟨ps, ⟨g0, t0, cs0, f0, p0, q0, hg0, ht0, hv0, hd0, ⟨g1, t1, cs1, f1, p1, q1, hg1, ht1, hv1, hd1, ⟨g2, t2, cs2, f2, p2, q2, hg2, ht2, hv2, hd2, ⟨g3, t3, cs3, f3, p3, q3, hg3, ht3, hv3, hd3, ⟨g4, t4, cs4, f4, p4, q4, hg4, ht4, hv4, hd4, _, _⟩, _⟩, _⟩, _⟩, _⟩, _, _⟩ := h
  obtain rfl := Option.some.inj (glob_tab.symm.trans hg2)
  obtain rfl := Option.some.inj (glob_rng.symm.trans hg3)
  obtain rfl := Option.some.inj (glob_syn.symm.trans hg4)
  have hty : (Tryd.prog.globals[3]?).map (·.type) = some 119 := by kernel_rfl
  have hty3 : (Tryd.prog.globals[2]?).map (·.type) = some 54 := by kernel_rfl
  have hty4 : (Tryd.prog.globals[1]?).map (·.type) = some 54 := by kernel_rfl
  obtain rfl := Option.some.inj (hty.symm.trans ht2)
  obtain rfl := Option.some.inj (hty3.symm.trans ht3)
  obtain rfl := Option.some.inj (hty4.symm.trans ht4)
  rw [pow_is13] at hd2
  have hT : Lib.TabIs Tryd.prog W "internal/strconv.uint64pow10" .u64 Lib.pow10Tab := by
    unfold Lib.TabIs
    rw [hv2, ← Lib.cells_of_tab Tryd.underlying119 Tryd.underlying58 (by kernel_rfl) (by kernel_rfl) hd2]
  refine ⟨⟨hT, ?_⟩, ?_, ?_⟩
  · have hc := hT.cell glob_tab 0 (by rw [Lib.pow10Tab_length]; omega)
    exact World.block_lt_of_cell? W ⟨3, 0, none⟩ hc
  · obtain ⟨u, v, e⟩ := iface_of ⟨_, Tryd.underlying54⟩ hd4
    refine ⟨.iface u v, ?_, .inr ⟨u, v, rfl⟩⟩
    rw [World.var?_cell glob_syn hv4 0]
    have : cs4[0]? = cs4.toList[0]? := by simp
    rw [this, e]; rfl
  · obtain ⟨u, v, e⟩ := iface_of ⟨_, Tryd.underlying54⟩ hd3
    refine ⟨.iface u v, ?_, .inr ⟨u, v, rfl⟩⟩
    rw [World.var?_cell glob_rng hv3 0]
    have : cs3[0]? = cs3.toList[0]? := by simp
    rw [this, e]; rfl
/-- the door's own heap meets the condition -/
theorem door_met13 (os : Os) (args : Array Value) : laidMetH Tryd.prog lst13 ((World.doorLaid Tryd.prog 400 os).forCall (fun _ _ => 0) ⟨#[], args, []⟩).memory :=
  laidMetH_of_parts3 (fuel := 8) (laidMet_of_run' 8 (by kernel_rfl) (by kernel_rfl)) (by kernel_rfl) (by kernel_rfl)
section
variable {H : Type} {enc : TypeId × Value → H}
theorem open_scores {P : Program} {W : World} {base : Nat} {t e : TypeId} {v : Value} {d : DataW H} {p : List MemPlace} {f0 f1 : Field} (ht : P.underlying t = some (.slice e)) (he : P.underlying e = some (.struct #[f0, f1])) (hc : P.cellsOf e = 2)
    (ho : (f0.offset, f1.offset) = (0, 1)) (hs : (P.cellsOf f0.type, P.cellsOf f1.type) = (1, 1))
    (hu : (P.underlying f0.type, P.underlying f1.type) = (some (.int .i64), some (.int .i64)))
    (hv : Value.okWide P W .any base t v) (h : DataW.Trod enc P W 0 (fun _ => true) true t v d p) :
    ∃ A l c, v = .slice A l.length c ∧ LiesS W W.heap.size A l ∧ okS l ∧ l.length ≤ 9223372036854775807 ∧ l.length ≤ c ∧ (A = none → c = 0) := by
  simp only [Prod.mk.injEq] at ho hs hu
  obtain ⟨o0, o1⟩ := ho
  obtain ⟨s0, s1⟩ := hs
  obtain ⟨u0, u1⟩ := hu
  obtain ⟨a0, len, cap, rfl⟩ := okWide_slice ht hv
  obtain ⟨fuel, hf⟩ := h
  rcases open_slice ht hf with ⟨hcs, _⟩ | ⟨a, len', cap', m, n, D, Pl, hcs, _, hle, hm, hmm, _, hx⟩
  · simp [Value.cells] at hcs
    obtain ⟨rfl, rfl, rfl⟩ := hcs
    exact ⟨none, [], 0, rfl, LiesS.nil, (fun x hx => by cases hx), by simp, by simp, fun _ => rfl⟩
  · simp [Value.cells] at hcs
    obtain ⟨rfl, rfl, rfl⟩ := hcs
    simp only [if_true] at hmm
    subst hmm
    rw [hc] at hx
    have each : ∀ i, i < m → ∃ x : PQ, (I64 x.1 ∧ I64 x.2) ∧ W.cell? (a.add (i * 2)) = some (.int .i64 x.1) ∧ W.cell? (a.add (i * 2 + 1)) = some (.int .i64 x.2) := fun i hi => by
      obtain ⟨cs', h1, h2⟩ := hx i hi
      obtain ⟨_, hlen, hcell⟩ := World.cells?_some h1
      obtain ⟨xs, n', _, _, _, hxl, hfl⟩ := DataW.trod_struct he h2
      match cs', hlen, xs, hxl with
      | [v0, v1], _, [y0, y1], _ =>
        have t0 := hfl 0 f0 rfl
        have t1 := hfl 1 f1 rfl
        rw [o0, s0] at t0
        rw [o1, s1] at t1
        obtain ⟨n0, e0, _, w0⟩ := DataW.trod_int u0 t0
        obtain ⟨n1, e1, _, w1⟩ := DataW.trod_int u1 t1
        simp at e0 e1
        subst e0 e1
        have k := fun j (hj : j < 2) => hcell j hj
        simp only [add_addS] at k
        exact ⟨⟨n0, n1⟩, ⟨i64_of_wf w0, i64_of_wf w1⟩, k 0 (by omega), k 1 (by omega)⟩
    obtain ⟨X, hX⟩ := choose_lt each
    have hg : ∀ j, j < len → ((List.range len).map X).getD j pq0 = X j := fun j hj => by simp [List.getD, hj]
    refine ⟨some a, (List.range len).map X, m, by simp, fun h0 => ⟨a, rfl, ?_, fun j hj => ?_⟩, fun x hx => ?_, by unfold maxLen at hm; simp; omega, by simp; omega, fun h => by cases h⟩
    · have h0' : 0 < len := by simpa using h0
      have h1 := (hX 0 (by omega)).2.1
      have h2 := World.block_lt_of_cell? W (a.add (0 * 2)) h1
      rw [add_block] at h2
      exact h2
    · have hj' : j < len := by simpa using hj
      rw [hg j hj']
      exact (hX j (by omega)).2
    · obtain ⟨j, hj, rfl⟩ := List.mem_map.1 hx
      have hj' := List.mem_range.1 hj
      exact (hX j (by omega)).1
end
end Go.Proofs.YtiepfkhbebdkeaaDoor
