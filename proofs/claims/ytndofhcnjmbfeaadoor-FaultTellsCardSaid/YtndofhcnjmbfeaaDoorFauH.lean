/- errors.As at variables of type coded and combined. -/
import Derived.Test.YtndofhcnjmbfeaaDoorFauG
namespace Go.Proofs.YtndofhcnjmbfeaaDoor
open Go.RowKit Go.Extern.Stop Go.Stop Go.Extern
set_option linter.unusedVariables false
set_option linter.unusedSimpArgs false

/-- the variable that errors.As reads, as it is laid -/
def Glob (w : World) : Prop := w.cell? ⟨0, 0, none⟩ = some (rT 70)
theorem Glob.lt {w : World} (h : Glob w) : 0 < w.heap.size := by
  rcases Nat.eq_zero_or_pos w.heap.size with h0 | h1
  · unfold Glob at h; simp [World.cell?, h0] at h
  · exact h1
theorem Glob.below {w w' : World} {B : Nat} (h : Glob w) (hB : 0 < B) (hb : Below B w w') : Glob w' := (hb.cell hB).trans h
theorem Glob.alloc {w : World} (h : Glob w) (o : Obj) : Glob (w.alloc o) := by
  unfold Glob; rw [World.cell?_alloc_lt _ _ ⟨0, 0, none⟩ h.lt]; exact h
theorem m_elem (h : Value) (w : World) : (Go.method 267 107 (.agg #[h]) "Elem").run Tryd.prog w = .ok (87, .agg #[h]) w := by kernel_rfl
theorem m_impl (h : Value) (w : World) : (Go.method 267 107 (.agg #[h]) "Implements").run Tryd.prog w = .ok (88, .agg #[h]) w := by kernel_rfl
set_option maxRecDepth 100000 in
set_option maxHeartbeats 4000000 in
theorem As_c (t0 : FT) (v0 : Value) (w0 w : World) (hp : IsPart w0 t0 v0) (hw : Below w0.heap.size w0 w) (g : Nat) (o1 o2 o3 : Value) (T1 : TypeId) (hg : Box w g #[o1, o2, o3] T1) (g0 : w0.heap.size ≤ g) (hG : Glob w) :
    Calls Tryd.prog 30 #[v0, .iface 83 (ptr g 0)] w fun e w' => e = .returned (.bool (resC (chain t0) (o1, o2, o3)).1) ∧ Box w' g #[(resC (chain t0) (o1, o2, o3)).2.1, (resC (chain t0) (o1, o2, o3)).2.2.1, (resC (chain t0) (o1, o2, o3)).2.2.2] T1 ∧ Below w0.heap.size w0 w' := by
  have h6 := @run_callFunc_extern Tryd.prog 34 _ (fun args => ReflectliteValue.unpack (args.getD 0 (.tuple #[]))) Tryd.func34 (by kernel_rfl) (by kernel_rfl) (by kernel_rfl) (by kernel_rfl)
  have h7 := @run_callFunc_extern Tryd.prog 35 _ (ReflectliteValue.methodAny (ReflectliteValue.valueError "reflectlite.Value.Type" 0) (fun t _ _ _ => ReflectliteType.toType t)) Tryd.func35 (by kernel_rfl) (by kernel_rfl) (by kernel_rfl) (by kernel_rfl)
  have h8 := @run_callFunc_extern Tryd.prog 36 _ (ReflectliteValue.method (ReflectliteValue.valueError "reflectlite.Value.IsNil" 0) ReflectliteValue.isNil) Tryd.func36 (by kernel_rfl) (by kernel_rfl) (by kernel_rfl) (by kernel_rfl)
  have h27 := @run_callFunc_extern Tryd.prog 69 _ (ReflectliteType.abiMethod fun t => do pure (.int .u8 (← Rtype.kind t))) Tryd.func69 (by kernel_rfl) (by kernel_rfl) (by kernel_rfl) (by kernel_rfl)
  have h37 := @run_callFunc_extern Tryd.prog 87 _ (ReflectliteType.method ReflectliteType.elem) Tryd.func87 (by kernel_rfl) (by kernel_rfl) (by kernel_rfl) (by kernel_rfl)
  have h38 := @run_callFunc_extern Tryd.prog 88 _ (ReflectliteType.relation "Implements" ReflectliteType.implements_) Tryd.func88 (by kernel_rfl) (by kernel_rfl) (by kernel_rfl) (by kernel_rfl)
  have mK := m_kind
  have mE := m_elem
  have mI := m_impl
  have f6 := vof_c
  have f7 := typ_c
  have k1 := kindp_c
  have k2 := kinde_c
  have e1 := elem_c
  have i1 := impl_c
  have hlg := hg.lt
  have n8 := isNil_c ⟨w.heap.size, 0, none⟩ ⟨g, 0, none⟩ ((w.alloc (.cells #[ptr g 0] 83)).alloc (.cells #[.pointer (some ⟨4, 83, none⟩), ptr w.heap.size 0, .int .u64 150] 93)) (by
    have h := ((Box.new w #[ptr g 0] 83).alloc (.cells #[.pointer (some ⟨4, 83, none⟩), ptr w.heap.size 0, .int .u64 150] 93)).cell 0
    exact h)
  have hG2 : ((w.alloc (.cells #[ptr g 0] 83)).alloc (.cells #[.pointer (some ⟨4, 83, none⟩), ptr w.heap.size 0, .int .u64 150] 93)).cell? ⟨0, 0, none⟩ = some (rT 70) := (hG.alloc _).alloc _
  have KA := Lib.hid (as_c t0 v0 w0 ((w.alloc (.cells #[ptr g 0] 83)).alloc (.cells #[.pointer (some ⟨4, 83, none⟩), ptr w.heap.size 0, .int .u64 150] 93)) hp ((hw.alloc hw.size _).alloc (by rw [alloc_size']; have := hw.size; omega) _) g w.heap.size o1 o2 o3 T1 83 ((hg.alloc _).alloc _) ((Box.new w #[ptr g 0] 83).alloc _) g0 hw.size (by omega) (.iface 83 (ptr g 0)))
  obtain ⟨Tv, y, rfl⟩ := part_iface hp
  clear hg hw hp
  go_enter Tryd.func30, Tryd.ntmps30
  have HR : Hid (resC (chain t0) (o1, o2, o3) = resC (chain t0) (o1, o2, o3)) := rfl
  generalize resC (chain t0) (o1, o2, o3) = R at *
  obtain ⟨r0, r1, r2, r3⟩ := R
  go_wp2_with (go_at_call 37; refine KA.out.mono ?_; rintro e w1 ⟨rfl, hb1, hw1⟩)
  go_ret
  exact ⟨rfl, hb1, hw1⟩
set_option maxRecDepth 100000 in
set_option maxHeartbeats 4000000 in
theorem As_b_miss (t0 : FT) (v0 : Value) (w0 w : World) (hp : IsPart w0 t0 v0) (hw : Below w0.heap.size w0 w) (g : Nat) (o1 o2 : Value) (T1 : TypeId) (hg : Box w g #[o1, o2] T1) (g0 : w0.heap.size ≤ g) (hG : Glob w) (op0 : ByteArray) (n0 c0 : Int) (hch : chain t0 = .code op0 n0 c0) :
    Calls Tryd.prog 30 #[v0, .iface 84 (ptr g 0)] w fun e w' => e = .returned (.bool false) ∧ Box w' g #[o1, o2] T1 ∧ Below w0.heap.size w0 w' := by
  have h6 := @run_callFunc_extern Tryd.prog 34 _ (fun args => ReflectliteValue.unpack (args.getD 0 (.tuple #[]))) Tryd.func34 (by kernel_rfl) (by kernel_rfl) (by kernel_rfl) (by kernel_rfl)
  have h7 := @run_callFunc_extern Tryd.prog 35 _ (ReflectliteValue.methodAny (ReflectliteValue.valueError "reflectlite.Value.Type" 0) (fun t _ _ _ => ReflectliteType.toType t)) Tryd.func35 (by kernel_rfl) (by kernel_rfl) (by kernel_rfl) (by kernel_rfl)
  have h8 := @run_callFunc_extern Tryd.prog 36 _ (ReflectliteValue.method (ReflectliteValue.valueError "reflectlite.Value.IsNil" 0) ReflectliteValue.isNil) Tryd.func36 (by kernel_rfl) (by kernel_rfl) (by kernel_rfl) (by kernel_rfl)
  have h27 := @run_callFunc_extern Tryd.prog 69 _ (ReflectliteType.abiMethod fun t => do pure (.int .u8 (← Rtype.kind t))) Tryd.func69 (by kernel_rfl) (by kernel_rfl) (by kernel_rfl) (by kernel_rfl)
  have h37 := @run_callFunc_extern Tryd.prog 87 _ (ReflectliteType.method ReflectliteType.elem) Tryd.func87 (by kernel_rfl) (by kernel_rfl) (by kernel_rfl) (by kernel_rfl)
  have h38 := @run_callFunc_extern Tryd.prog 88 _ (ReflectliteType.relation "Implements" ReflectliteType.implements_) Tryd.func88 (by kernel_rfl) (by kernel_rfl) (by kernel_rfl) (by kernel_rfl)
  have mK := m_kind
  have mE := m_elem
  have mI := m_impl
  have f6 := vof_b
  have f7 := typ_b
  have k1 := kindp_b
  have k2 := kinde_b
  have e1 := elem_b
  have i1 := impl_b
  have hlg := hg.lt
  have n8 := isNil_b ⟨w.heap.size, 0, none⟩ ⟨g, 0, none⟩ ((w.alloc (.cells #[ptr g 0] 84)).alloc (.cells #[.pointer (some ⟨4, 84, none⟩), ptr w.heap.size 0, .int .u64 150] 93)) (by
    have h := ((Box.new w #[ptr g 0] 84).alloc (.cells #[.pointer (some ⟨4, 84, none⟩), ptr w.heap.size 0, .int .u64 150] 93)).cell 0
    exact h)
  have hG2 : ((w.alloc (.cells #[ptr g 0] 84)).alloc (.cells #[.pointer (some ⟨4, 84, none⟩), ptr w.heap.size 0, .int .u64 150] 93)).cell? ⟨0, 0, none⟩ = some (rT 70) := (hG.alloc _).alloc _
  have KA := Lib.hid (as_b_miss t0 v0 w0 ((w.alloc (.cells #[ptr g 0] 84)).alloc (.cells #[.pointer (some ⟨4, 84, none⟩), ptr w.heap.size 0, .int .u64 150] 93)) hp ((hw.alloc hw.size _).alloc (by rw [alloc_size']; have := hw.size; omega) _) g w.heap.size o1 o2 T1 84 ((hg.alloc _).alloc _) ((Box.new w #[ptr g 0] 84).alloc _) g0 hw.size (by omega) op0 n0 c0 hch (.iface 84 (ptr g 0)))
  obtain ⟨Tv, y, rfl⟩ := part_iface hp
  clear hg hw hp
  go_enter Tryd.func30, Tryd.ntmps30
  go_wp2_with (go_at_call 37; refine KA.out.mono ?_; rintro e w1 ⟨rfl, hb1, hw1⟩)
  go_ret
  exact ⟨rfl, hb1, hw1⟩
set_option maxRecDepth 100000 in
set_option maxHeartbeats 4000000 in
theorem As_b_hit (t0 : FT) (v0 : Value) (w0 w : World) (hp : IsPart w0 t0 v0) (hw : Below w0.heap.size w0 w) (g : Nat) (o1 o2 : Value) (T1 : TypeId) (hg : Box w g #[o1, o2] T1) (g0 : w0.heap.size ≤ g) (hG : Glob w) (xa xb : FT) (hch : chain t0 = .both xa xb) :
    Calls Tryd.prog 30 #[v0, .iface 84 (ptr g 0)] w fun e w' => e = .returned (.bool true) ∧ HitB w0 xa xb g T1 w' ∧ Below w0.heap.size w0 w' := by
  have h6 := @run_callFunc_extern Tryd.prog 34 _ (fun args => ReflectliteValue.unpack (args.getD 0 (.tuple #[]))) Tryd.func34 (by kernel_rfl) (by kernel_rfl) (by kernel_rfl) (by kernel_rfl)
  have h7 := @run_callFunc_extern Tryd.prog 35 _ (ReflectliteValue.methodAny (ReflectliteValue.valueError "reflectlite.Value.Type" 0) (fun t _ _ _ => ReflectliteType.toType t)) Tryd.func35 (by kernel_rfl) (by kernel_rfl) (by kernel_rfl) (by kernel_rfl)
  have h8 := @run_callFunc_extern Tryd.prog 36 _ (ReflectliteValue.method (ReflectliteValue.valueError "reflectlite.Value.IsNil" 0) ReflectliteValue.isNil) Tryd.func36 (by kernel_rfl) (by kernel_rfl) (by kernel_rfl) (by kernel_rfl)
  have h27 := @run_callFunc_extern Tryd.prog 69 _ (ReflectliteType.abiMethod fun t => do pure (.int .u8 (← Rtype.kind t))) Tryd.func69 (by kernel_rfl) (by kernel_rfl) (by kernel_rfl) (by kernel_rfl)
  have h37 := @run_callFunc_extern Tryd.prog 87 _ (ReflectliteType.method ReflectliteType.elem) Tryd.func87 (by kernel_rfl) (by kernel_rfl) (by kernel_rfl) (by kernel_rfl)
  have h38 := @run_callFunc_extern Tryd.prog 88 _ (ReflectliteType.relation "Implements" ReflectliteType.implements_) Tryd.func88 (by kernel_rfl) (by kernel_rfl) (by kernel_rfl) (by kernel_rfl)
  have mK := m_kind
  have mE := m_elem
  have mI := m_impl
  have f6 := vof_b
  have f7 := typ_b
  have k1 := kindp_b
  have k2 := kinde_b
  have e1 := elem_b
  have i1 := impl_b
  have hlg := hg.lt
  have n8 := isNil_b ⟨w.heap.size, 0, none⟩ ⟨g, 0, none⟩ ((w.alloc (.cells #[ptr g 0] 84)).alloc (.cells #[.pointer (some ⟨4, 84, none⟩), ptr w.heap.size 0, .int .u64 150] 93)) (by
    have h := ((Box.new w #[ptr g 0] 84).alloc (.cells #[.pointer (some ⟨4, 84, none⟩), ptr w.heap.size 0, .int .u64 150] 93)).cell 0
    exact h)
  have hG2 : ((w.alloc (.cells #[ptr g 0] 84)).alloc (.cells #[.pointer (some ⟨4, 84, none⟩), ptr w.heap.size 0, .int .u64 150] 93)).cell? ⟨0, 0, none⟩ = some (rT 70) := (hG.alloc _).alloc _
  have KA := Lib.hid (as_b_hit t0 v0 w0 ((w.alloc (.cells #[ptr g 0] 84)).alloc (.cells #[.pointer (some ⟨4, 84, none⟩), ptr w.heap.size 0, .int .u64 150] 93)) hp ((hw.alloc hw.size _).alloc (by rw [alloc_size']; have := hw.size; omega) _) g w.heap.size o1 o2 T1 84 ((hg.alloc _).alloc _) ((Box.new w #[ptr g 0] 84).alloc _) g0 hw.size (by omega) xa xb hch (.iface 84 (ptr g 0)))
  obtain ⟨Tv, y, rfl⟩ := part_iface hp
  clear hg hw hp
  go_enter Tryd.func30, Tryd.ntmps30
  go_wp2_with (go_at_call 37; refine KA.out.mono ?_; rintro e w1 ⟨rfl, hb1, hw1⟩)
  go_ret
  exact ⟨rfl, hb1, hw1⟩
end Go.Proofs.YtndofhcnjmbfeaaDoor
