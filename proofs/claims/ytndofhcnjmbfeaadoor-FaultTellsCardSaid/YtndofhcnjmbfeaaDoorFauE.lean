/- Facts of errors.As, on: ValueOf of a part, Set of a variable of a part's type. -/
import Derived.Test.YtndofhcnjmbfeaaDoorFauC
import Derived.Laws.Cells
namespace Go.Proofs.YtndofhcnjmbfeaaDoor
open Go.RowKit Go.Extern.Stop Go.Stop Go.Extern
set_option linter.unusedVariables false
set_option linter.unusedSimpArgs false

theorem vofv_c (s a b : Value) (w : World) : (ReflectliteValue.unpack (.iface 55 (.agg #[s, a, b]))).run Tryd.prog w
    = .ok (.agg #[.pointer (some ⟨4, 55, none⟩), .pointer (some ⟨w.heap.size, 0, none⟩), .int .u64 153]) (w.alloc (.cells #[s, a, b] 55)) := by kernel_rfl
theorem vofv_b (a b : Value) (w : World) : (ReflectliteValue.unpack (.iface 59 (.agg #[a, b]))).run Tryd.prog w
    = .ok (.agg #[.pointer (some ⟨4, 59, none⟩), .pointer (some ⟨w.heap.size, 0, none⟩), .int .u64 153]) (w.alloc (.cells #[a, b] 59)) := by kernel_rfl
theorem rl_set (v x : Value) : ReflectliteValue.set #[v, x] = (do
    let (some (dst, a, fl), some (src, b, _)) := (← ReflectliteValue.parts v, ← ReflectliteValue.parts x)
      | unsupported (.noEntry "extern/(internal/reflectlite.Value).Set.zeroValue")
    if fl / ReflectliteValue.flagAddr % 2 == 0 then unsupported (.noEntry "extern/(internal/reflectlite.Value).Set.unaddressable")
    let val ← loadVar src b
    if ← Rtype.directlyAssignable dst src then storeVar dst a val
    else if ← Rtype.implements dst src then
      if (← Rtype.kind src) == 20 then
        match val with
        | .nilIface => unsupported (.noEntry "extern/reflectlite: a nil value of one interface type handed on as a value of another")
        | _ => storeVar dst a val
      else storeVar dst a (.iface src val)
    else panicString ("reflectlite.Set: value of type " ++ (← Rtype.spelt src) ++ " is not assignable to type " ++ (← Rtype.spelt dst))
    pure (.tuple #[])) := rfl
theorem partsa_c (a : Addr) (w : World) : (ReflectliteValue.parts (.agg #[.pointer (some ⟨4, 55, none⟩), .pointer (some a), .int .u64 409])).run Tryd.prog w = .ok (some (55, a, 409)) w := by kernel_rfl
theorem partsv_c (a : Addr) (w : World) : (ReflectliteValue.parts (.agg #[.pointer (some ⟨4, 55, none⟩), .pointer (some a), .int .u64 153])).run Tryd.prog w = .ok (some (55, a, 153)) w := by kernel_rfl
theorem direct_c (w : World) : (Rtype.directlyAssignable 55 55).run Tryd.prog w = .ok true w := by kernel_rfl
theorem size_c (w : World) : (sizeOf 55).run Tryd.prog w = .ok 3 w := by kernel_rfl
theorem agg_c (w : World) : (isAgg 55).run Tryd.prog w = .ok true w := by kernel_rfl
theorem partsa_b (a : Addr) (w : World) : (ReflectliteValue.parts (.agg #[.pointer (some ⟨4, 59, none⟩), .pointer (some a), .int .u64 409])).run Tryd.prog w = .ok (some (59, a, 409)) w := by kernel_rfl
theorem partsv_b (a : Addr) (w : World) : (ReflectliteValue.parts (.agg #[.pointer (some ⟨4, 59, none⟩), .pointer (some a), .int .u64 153])).run Tryd.prog w = .ok (some (59, a, 153)) w := by kernel_rfl
theorem direct_b (w : World) : (Rtype.directlyAssignable 59 59).run Tryd.prog w = .ok true w := by kernel_rfl
theorem size_b (w : World) : (sizeOf 59).run Tryd.prog w = .ok 2 w := by kernel_rfl
theorem agg_b (w : World) : (isAgg 59).run Tryd.prog w = .ok true w := by kernel_rfl
theorem load_c (h : Nat) (s a b : Value) (t : TypeId) (W : World) (hx : Box W h #[s, a, b] t) : (loadVar 55 ⟨h, 0, none⟩).run Tryd.prog W = .ok (.agg #[s, a, b]) W := by
  have hl := run_loadCells_list (P := Tryd.prog) W ⟨h, 0, none⟩ [s, a, b] (fun j v hj => by
    have h1 : (⟨h, 0, none⟩ : Addr).add j = ⟨h, j, none⟩ := by unfold Addr.add; split <;> simp_all
    rw [h1, hx.cell j, ← hj]; simp)
  simp only [loadVar, Sem.run_bind, agg_c, Result.andThen]
  simp at hl ⊢
  simp [hl, Result.andThen, size_c]
theorem load_b (h : Nat) (a b : Value) (t : TypeId) (W : World) (hx : Box W h #[a, b] t) : (loadVar 59 ⟨h, 0, none⟩).run Tryd.prog W = .ok (.agg #[a, b]) W := by
  have hl := run_loadCells_list (P := Tryd.prog) W ⟨h, 0, none⟩ [a, b] (fun j v hj => by
    have h1 : (⟨h, 0, none⟩ : Addr).add j = ⟨h, j, none⟩ := by unfold Addr.add; split <;> simp_all
    rw [h1, hx.cell j, ← hj]; simp)
  simp only [loadVar, Sem.run_bind, agg_b, Result.andThen]
  simp at hl ⊢
  simp [hl, Result.andThen, size_b]
theorem set_c (g h : Nat) (s a b o1 o2 o3 : Value) (t t' : TypeId) (W : World) (hs : s.oneCell' = true) (ha : a.oneCell' = true) (hb : b.oneCell' = true) (hx : Box W h #[s, a, b] t) (hg : Box W g #[o1, o2, o3] t') (hn : g ≠ h) :
    (ReflectliteValue.set #[.agg #[.pointer (some ⟨4, 55, none⟩), .pointer (some ⟨g, 0, none⟩), .int .u64 409], .agg #[.pointer (some ⟨4, 55, none⟩), .pointer (some ⟨h, 0, none⟩), .int .u64 153]]).run Tryd.prog W
      = .ok (.tuple #[]) (((W.setCell ⟨g, 0, none⟩ s).setCell ⟨g, 1, none⟩ a).setCell ⟨g, 2, none⟩ b) := by
  rw [rl_set]
  simp only [Sem.run_bind, partsa_c, partsv_c, Result.andThen]
  simp [ReflectliteValue.flagAddr, load_c h s a b t W hx, Result.andThen, direct_c, storeVar, Value.cells, size_c, storeCells, Addr.add]
  have g0 := hg.set 0 s
  have g1 := g0.set 1 a
  rw [run_store Tryd.prog W _ _ _ hs]
  simp [hg.cell 0, hg.free 0, Result.andThen]
  rw [run_store Tryd.prog _ _ _ _ ha]
  have c1 := g0.cell 1
  have f1 := g0.free 1
  simp at c1 f1
  simp [c1, f1, Result.andThen]
  rw [run_store Tryd.prog _ _ _ _ hb]
  have c2 := g1.cell 2
  have f2 := g1.free 2
  simp at c2 f2
  simp [c2, f2, Result.andThen]
theorem set_b (g h : Nat) (a b o1 o2 : Value) (t t' : TypeId) (W : World) (ha : a.oneCell' = true) (hb : b.oneCell' = true) (hx : Box W h #[a, b] t) (hg : Box W g #[o1, o2] t') (hn : g ≠ h) :
    (ReflectliteValue.set #[.agg #[.pointer (some ⟨4, 59, none⟩), .pointer (some ⟨g, 0, none⟩), .int .u64 409], .agg #[.pointer (some ⟨4, 59, none⟩), .pointer (some ⟨h, 0, none⟩), .int .u64 153]]).run Tryd.prog W
      = .ok (.tuple #[]) ((W.setCell ⟨g, 0, none⟩ a).setCell ⟨g, 1, none⟩ b) := by
  rw [rl_set]
  simp only [Sem.run_bind, partsa_b, partsv_b, Result.andThen]
  simp [ReflectliteValue.flagAddr, load_b h a b t W hx, Result.andThen, direct_b, storeVar, Value.cells, size_b, storeCells, Addr.add]
  have g0 := hg.set 0 a
  rw [run_store Tryd.prog W _ _ _ ha]
  simp [hg.cell 0, hg.free 0, Result.andThen]
  rw [run_store Tryd.prog _ _ _ _ hb]
  have c1 := g0.cell 1
  have f1 := g0.free 1
  simp at c1 f1
  simp [c1, f1, Result.andThen]
end Go.Proofs.YtndofhcnjmbfeaaDoor
