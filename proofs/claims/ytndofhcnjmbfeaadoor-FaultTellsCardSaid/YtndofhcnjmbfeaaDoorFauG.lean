/- errors.as at a variable of type combined. -/
import Derived.Test.YtndofhcnjmbfeaaDoorFauF
namespace Go.Proofs.YtndofhcnjmbfeaaDoor
open Go.RowKit Go.Extern.Stop Go.Stop Go.Extern
set_option linter.unusedVariables false
set_option linter.unusedSimpArgs false

/-- block g holds the two faults of a combination -/
def HitB (w0 : World) (xa xb : FT) (g : Nat) (T1 : TypeId) (w' : World) : Prop := ∃ p q u u', Box w' g #[ptr p 0, ptr q 0] T1 ∧ Box w0 p #[u] 74 ∧ IsPart w0 xa u ∧ Box w0 q #[u'] 74 ∧ IsPart w0 xb u'
set_option maxRecDepth 100000 in
set_option maxHeartbeats 4000000 in
theorem as_b_miss (t0 : FT) (v0 : Value) (w0 w : World) (hp : IsPart w0 t0 v0) (hw : Below w0.heap.size w0 w) (g ga : Nat) (o1 o2 : Value) (T1 T2 : TypeId) (hg : Box w g #[o1, o2] T1) (hga : Box w ga #[ptr g 0] T2) (g0 : w0.heap.size ≤ g) (ga0 : w0.heap.size ≤ ga) (hne : g ≠ ga) (op0 : ByteArray) (n0 c0 : Int) (hch : chain t0 = .code op0 n0 c0) (x : Value) :
    Calls Tryd.prog 37 #[v0, x, .agg #[.pointer (some ⟨4, 84, none⟩), ptr ga 0, .int .u64 150], rT 59] w fun e w' => e = .returned (.bool false) ∧ Box w' g #[o1, o2] T1 ∧ Below w0.heap.size w0 w' := by
  have h10 := @run_callFunc_extern Tryd.prog 40 _ ReflectliteType.typeOf Tryd.func40 (by kernel_rfl) (by kernel_rfl) (by kernel_rfl) (by kernel_rfl)
  have h35 := @run_callFunc_extern Tryd.prog 85 _ (ReflectliteType.relation "AssignableTo" ReflectliteType.assignableTo) Tryd.func85 (by kernel_rfl) (by kernel_rfl) (by kernel_rfl) (by kernel_rfl)
  have h11 := @run_callFunc_extern Tryd.prog 42 _ (ReflectliteValue.method (ReflectliteValue.valueError "reflectlite.Value.Elem" 0) ReflectliteValue.elem) Tryd.func42 (by kernel_rfl) (by kernel_rfl) (by kernel_rfl) (by kernel_rfl)
  have h12 := @run_callFunc_extern Tryd.prog 43 _ ReflectliteValue.set Tryd.func43 (by kernel_rfl) (by kernel_rfl) (by kernel_rfl) (by kernel_rfl)
  have h6 := @run_callFunc_extern Tryd.prog 34 _ (fun args => ReflectliteValue.unpack (args.getD 0 (.tuple #[]))) Tryd.func34 (by kernel_rfl) (by kernel_rfl) (by kernel_rfl) (by kernel_rfl)
  have mA := m_asg
  have t1 := tyof_c
  have t2 := tyof_w
  have t3 := tyof_b
  have a1 := asg_cb
  have a2 := asg_wb
  have a3 := asg_bb
  have v1 := vofv_b
  have taA0 := taA_c
  have taU0 := taU_c
  have taV0 := taUU_c
  have taA1 := taA_w
  have taA2 := taA_b
  have taU1 := taU_w
  have taU2 := taU_b
  have taV1 := taUU_w
  have taV2 := taUU_b
  have mU := m_unw
  go_enter Tryd.func37, Tryd.ntmps37
  have J0 : Keeps w0.heap.size w0 [(w.heap.size, #[.pointer (some ⟨4, 84, none⟩), ptr ga 0, .int .u64 150], 93), (g, #[o1, o2], T1), (ga, #[ptr g 0], T2)] (w.alloc (.cells #[.pointer (some ⟨4, 84, none⟩), ptr ga 0, .int .u64 150] 93)) :=
    Keeps.alloc ⟨fun x hx => by
      rcases List.mem_cons.1 hx with rfl | hx
      · exact hg
      · rw [List.mem_singleton.1 hx]; exact hga, hw, hw.size⟩ _ _
  have HJ := Lib.hid J0
  have HP := Lib.hid hp
  clear J0 hp hw hg hga
  go_wp2
  go_loopw [0] (fun v wr => ∃ t, IsPart w0 t v ∧ Hid (chain t = chain t0) ∧ Hid (Keeps w0.heap.size w0 [(w.heap.size, #[.pointer (some ⟨4, 84, none⟩), ptr ga 0, .int .u64 150], 93), (g, #[o1, o2], T1), (ga, #[ptr g 0], T2)] wr)) (fun v _ => dep w0 v)
  case atStart => exact ⟨t0, HP.out, rfl, HJ.out⟩
  case round =>
    obtain ⟨t, HT, HC, J⟩ := hrel
    cases t with
    | code op n c =>
      obtain rfl := HT
      go_wp2
      go_ret
      exact ⟨rfl, J.out.tail.head, J.out.2.1⟩
    | wrap op n t' =>
      obtain ⟨b, u, rfl, hx, hu⟩ := HT
      obtain ⟨T, y, rfl⟩ := part_iface hu
      have hxr := hx.below J.out.2.1 hx.lt
      have cb := fun o => (hxr.alloc o).cell 0
      simp at cb
      have HU := Lib.hid hu
      have hd := dep_eq hu
      have hd2 := dep_eq (show IsPart w0 (.wrap op n t') (wrapV op n (some ⟨b, 0, none⟩)) from ⟨b, _, rfl, hx, hu⟩)
      have HD : Hid (dep w0 (.iface T y) < dep w0 (wrapV op n (some ⟨b, 0, none⟩))) := by show _ < _; rw [hd, hd2, deep]; omega
      clear hd hd2 hu
      go_wp2
      exact ⟨⟨t', HU.out, HC, J3 J.out _ _⟩, HD.out⟩
    | both a b =>
      exact absurd (HC.out.trans hch) (by simp [chain])

set_option maxRecDepth 100000 in
set_option maxHeartbeats 4000000 in
theorem as_b_hit (t0 : FT) (v0 : Value) (w0 w : World) (hp : IsPart w0 t0 v0) (hw : Below w0.heap.size w0 w) (g ga : Nat) (o1 o2 : Value) (T1 T2 : TypeId) (hg : Box w g #[o1, o2] T1) (hga : Box w ga #[ptr g 0] T2) (g0 : w0.heap.size ≤ g) (ga0 : w0.heap.size ≤ ga) (hne : g ≠ ga) (xa xb : FT) (hch : chain t0 = .both xa xb) (x : Value) :
    Calls Tryd.prog 37 #[v0, x, .agg #[.pointer (some ⟨4, 84, none⟩), ptr ga 0, .int .u64 150], rT 59] w fun e w' => e = .returned (.bool true) ∧ HitB w0 xa xb g T1 w' ∧ Below w0.heap.size w0 w' := by
  have h10 := @run_callFunc_extern Tryd.prog 40 _ ReflectliteType.typeOf Tryd.func40 (by kernel_rfl) (by kernel_rfl) (by kernel_rfl) (by kernel_rfl)
  have h35 := @run_callFunc_extern Tryd.prog 85 _ (ReflectliteType.relation "AssignableTo" ReflectliteType.assignableTo) Tryd.func85 (by kernel_rfl) (by kernel_rfl) (by kernel_rfl) (by kernel_rfl)
  have h11 := @run_callFunc_extern Tryd.prog 42 _ (ReflectliteValue.method (ReflectliteValue.valueError "reflectlite.Value.Elem" 0) ReflectliteValue.elem) Tryd.func42 (by kernel_rfl) (by kernel_rfl) (by kernel_rfl) (by kernel_rfl)
  have h12 := @run_callFunc_extern Tryd.prog 43 _ ReflectliteValue.set Tryd.func43 (by kernel_rfl) (by kernel_rfl) (by kernel_rfl) (by kernel_rfl)
  have h6 := @run_callFunc_extern Tryd.prog 34 _ (fun args => ReflectliteValue.unpack (args.getD 0 (.tuple #[]))) Tryd.func34 (by kernel_rfl) (by kernel_rfl) (by kernel_rfl) (by kernel_rfl)
  have mA := m_asg
  have t1 := tyof_c
  have t2 := tyof_w
  have t3 := tyof_b
  have a1 := asg_cb
  have a2 := asg_wb
  have a3 := asg_bb
  have v1 := vofv_b
  have taA0 := taA_c
  have taU0 := taU_c
  have taV0 := taUU_c
  have taA1 := taA_w
  have taA2 := taA_b
  have taU1 := taU_w
  have taU2 := taU_b
  have taV1 := taUU_w
  have taV2 := taUU_b
  have mU := m_unw
  go_enter Tryd.func37, Tryd.ntmps37
  have J0 : Keeps w0.heap.size w0 [(w.heap.size, #[.pointer (some ⟨4, 84, none⟩), ptr ga 0, .int .u64 150], 93), (g, #[o1, o2], T1), (ga, #[ptr g 0], T2)] (w.alloc (.cells #[.pointer (some ⟨4, 84, none⟩), ptr ga 0, .int .u64 150] 93)) :=
    Keeps.alloc ⟨fun x hx => by
      rcases List.mem_cons.1 hx with rfl | hx
      · exact hg
      · rw [List.mem_singleton.1 hx]; exact hga, hw, hw.size⟩ _ _
  have HJ := Lib.hid J0
  have HP := Lib.hid hp
  clear J0 hp hw hg hga
  go_wp2
  go_loopw [0] (fun v wr => ∃ t, IsPart w0 t v ∧ Hid (chain t = chain t0) ∧ Hid (Keeps w0.heap.size w0 [(w.heap.size, #[.pointer (some ⟨4, 84, none⟩), ptr ga 0, .int .u64 150], 93), (g, #[o1, o2], T1), (ga, #[ptr g 0], T2)] wr)) (fun v _ => dep w0 v)
  case atStart => exact ⟨t0, HP.out, rfl, HJ.out⟩
  case round =>
    obtain ⟨t, HT, HC, J⟩ := hrel
    cases t with
    | code op n c =>
      exact absurd (HC.out.trans hch) (by simp [chain])
    | wrap op n t' =>
      obtain ⟨b, u, rfl, hx, hu⟩ := HT
      obtain ⟨T, y, rfl⟩ := part_iface hu
      have hxr := hx.below J.out.2.1 hx.lt
      have cb := fun o => (hxr.alloc o).cell 0
      simp at cb
      have HU := Lib.hid hu
      have hd := dep_eq hu
      have hd2 := dep_eq (show IsPart w0 (.wrap op n t') (wrapV op n (some ⟨b, 0, none⟩)) from ⟨b, _, rfl, hx, hu⟩)
      have HD : Hid (dep w0 (.iface T y) < dep w0 (wrapV op n (some ⟨b, 0, none⟩))) := by show _ < _; rw [hd, hd2, deep]; omega
      clear hd hd2 hu
      go_wp2
      exact ⟨⟨t', HU.out, HC, J3 J.out _ _⟩, HD.out⟩
    | both a b =>
      obtain ⟨p, q, u, u', rfl, ⟨hx, hu⟩, ⟨hy, hv⟩⟩ := HT
      have hab := HC.out.trans hch
      simp only [chain, FT.both.injEq] at hab
      obtain ⟨rfl, rfl⟩ := hab
      have hb := J.out.head
      have b0 := hb.cell 0
      have b1 := hb.cell 1
      have b2 := hb.cell 2
      simp at b0 b1 b2
      have hgx := J.out.tail.head
      have hgax := J.out.tail.tail.head
      have hlg := hgx.lt
      have el := elemV_b ⟨ga, 0, none⟩ ⟨g, 0, none⟩ wr (by rw [hgax.cell 0]; rfl)
      have st := set_b g wr.heap.size (ptr p 0) (ptr q 0) o1 o2 _ T1 (wr.alloc (.cells #[ptr p 0, ptr q 0] 59)) rfl rfl (Box.new wr _ _) (hgx.alloc _) (by omega)
      have HX := Lib.hid hx
      have HY := Lib.hid hy
      have HU := Lib.hid hu
      have HV := Lib.hid hv
      clear hx hy hu hv
      go_wp2
      go_ret
      refine ⟨rfl, ⟨p, q, u, u', ?_, HX.out, HU.out, HY.out, HV.out⟩, ?_⟩
      · exact ((hgx.set 0 (ptr p 0)).set 1 (ptr q 0)).alloc _
      · exact ((J.out.2.1.setCell (p := ⟨g, 0, none⟩) g0 _).setCell (p := ⟨g, 1, none⟩) g0 _).alloc (by simp; exact J.out.2.2) _

theorem chain_ends : ∀ t : FT, (∃ op n c, chain t = .code op n c) ∨ ∃ x y, chain t = .both x y
  | .code op n c => .inl ⟨op, n, c, rfl⟩
  | .wrap _ _ t => chain_ends t
  | .both x y => .inr ⟨x, y, rfl⟩
end Go.Proofs.YtndofhcnjmbfeaaDoor
