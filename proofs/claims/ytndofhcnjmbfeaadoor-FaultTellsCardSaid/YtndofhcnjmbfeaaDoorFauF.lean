/- Faults as trees; errors.as at a variable of type coded. -/
import Derived.Test.YtndofhcnjmbfeaaDoorFauE
namespace Go.Proofs.YtndofhcnjmbfeaaDoor
open Go.RowKit Go.Extern.Stop Go.Stop Go.Extern
set_option linter.unusedVariables false
set_option linter.unusedSimpArgs false

/-- blocks that are kept -/
def Keeps (B : Nat) (W : World) (l : List (Nat × Array Value × TypeId)) (w : World) : Prop := (∀ x ∈ l, Box w x.1 x.2.1 x.2.2) ∧ Below B W w ∧ B ≤ w.heap.size
theorem Keeps.below {B : Nat} {W w w' : World} {l : List (Nat × Array Value × TypeId)} (h : Keeps B W l w) (hb : Below w.heap.size w w') : Keeps B W l w' :=
  ⟨fun x hx => (h.1 x hx).below hb (h.1 x hx).lt, h.2.1.trans (hb.mono h.2.2), Nat.le_trans h.2.2 hb.size⟩
theorem Keeps.alloc {B : Nat} {W w : World} {l : List (Nat × Array Value × TypeId)} (h : Keeps B W l w) (cs : Array Value) (t : TypeId) : Keeps B W ((w.heap.size, cs, t) :: l) (w.alloc (.cells cs t)) := by
  refine ⟨fun x hx => ?_, h.2.1.alloc h.2.2 _, by rw [alloc_size']; exact Nat.le_succ_of_le h.2.2⟩
  rcases List.mem_cons.1 hx with rfl | hx
  · exact Box.new w cs t
  · exact (h.1 x hx).alloc _
theorem Box.drew {w : World} {g : Nat} {cs : Array Value} {t : TypeId} (h : Box w g cs t) : Box w.drew g cs t := h
theorem Keeps.drew {B : Nat} {W w : World} {l : List (Nat × Array Value × TypeId)} (h : Keeps B W l w) : Keeps B W l w.drew := ⟨fun x hx => (h.1 x hx).drew, h.2.1.drew, h.2.2⟩
theorem Keeps.start (w : World) : Keeps w.heap.size w [] w := ⟨fun x hx => (by cases hx), Below.refl _ _, Nat.le_refl _⟩
theorem Keeps.head {B : Nat} {W w : World} {x : Nat × Array Value × TypeId} {l : List (Nat × Array Value × TypeId)} (h : Keeps B W (x :: l) w) : Box w x.1 x.2.1 x.2.2 := h.1 x List.mem_cons_self
theorem Keeps.tail {B : Nat} {W w : World} {x : Nat × Array Value × TypeId} {l : List (Nat × Array Value × TypeId)} (h : Keeps B W (x :: l) w) : Keeps B W l w := ⟨fun y hy => h.1 y (List.mem_cons_of_mem _ hy), h.2⟩

/-- what is made of faults: a link with a code, one that wraps, a combination -/
inductive FT where
  | code (op : ByteArray) (n c : Int)
  | wrap (op : ByteArray) (n : Int) (t : FT)
  | both (a b : FT)
/-- the value v is the part of a fault that is the tree t -/
def IsPart (w : World) : FT → Value → Prop
  | .code op n c, v => v = codedV op n c
  | .wrap op n t, v => ∃ b u, v = wrapV op n (some ⟨b, 0, none⟩) ∧ Box w b #[u] 74 ∧ IsPart w t u
  | .both x y, v => ∃ a b u u', v = bothV (some ⟨a, 0, none⟩) (some ⟨b, 0, none⟩) ∧ (Box w a #[u] 74 ∧ IsPart w x u) ∧ (Box w b #[u'] 74 ∧ IsPart w y u')
theorem IsPart.below {w w' : World} (hb : Below w.heap.size w w') : ∀ {t : FT} {v : Value}, IsPart w t v → IsPart w' t v
  | .code _ _ _, _, h => h
  | .wrap _ _ t, _, ⟨b, u, e, hx, h⟩ => ⟨b, u, e, hx.below hb hx.lt, IsPart.below hb h⟩
  | .both x y, _, ⟨a, b, u, u', e, ⟨hx, h⟩, ⟨hy, g⟩⟩ => ⟨a, b, u, u', e, ⟨hx.below hb hx.lt, IsPart.below hb h⟩, ⟨hy.below hb hy.lt, IsPart.below hb g⟩⟩
theorem part_iface {w : World} : ∀ {t : FT} {v : Value}, IsPart w t v → ∃ T x, v = .iface T x
  | .code _ _ _, _, h => ⟨_, _, h⟩
  | .wrap _ _ _, _, ⟨_, _, e, _⟩ => ⟨_, _, e⟩
  | .both _ _, _, ⟨_, _, _, _, e, _⟩ => ⟨_, _, e⟩
def deep : FT → Nat
  | .code _ _ _ => 0
  | .wrap _ _ t => deep t + 1
  | .both _ _ => 0
theorem box_one {w : World} {b : Nat} {u u' : Value} {t : TypeId} (h : Box w b #[u] t) (g : Box w b #[u'] t) : u = u' := by
  unfold Box at h g
  rw [h] at g
  simpa using g
theorem deep_same {w : World} : ∀ {t t' : FT} {v : Value}, IsPart w t v → IsPart w t' v → deep t = deep t'
  | .code _ _ _, .code _ _ _, _, _, _ => rfl
  | .both _ _, .both _ _, _, _, _ => rfl
  | .code _ _ _, .both _ _, _, _, _ => rfl
  | .both _ _, .code _ _ _, _, _, _ => rfl
  | .wrap _ _ t, .wrap _ _ t', _, ⟨b, u, e, hx, h⟩, ⟨b', u', e', hx', h'⟩ => by
    subst e
    simp [wrapV] at e'
    obtain ⟨_, _, rfl⟩ := e'
    obtain rfl := box_one hx hx'
    exact congrArg (· + 1) (deep_same h h')
  | .wrap _ _ t, .code _ _ _, _, ⟨b, u, e, _⟩, h => by
    subst e
    simp [IsPart, wrapV, codedV] at h
  | .code _ _ _, .wrap _ _ t, _, h, ⟨b, u, e, _⟩ => by
    subst e
    simp [IsPart, wrapV, codedV] at h
  | .wrap _ _ t, .both _ _, _, ⟨b, u, e, _⟩, ⟨_, _, _, _, e', _⟩ => by
    subst e
    simp [wrapV, bothV] at e'
  | .both _ _, .wrap _ _ t, _, ⟨_, _, _, _, e', _⟩, ⟨b, u, e, _⟩ => by
    subst e
    simp [wrapV, bothV] at e'
open Classical in
/-- how many links stand ahead of the end of v's chain -/
noncomputable def dep (w : World) (v : Value) : Nat := if h : ∃ t, IsPart w t v then deep h.choose else 0
theorem dep_eq {w : World} {t : FT} {v : Value} (h : IsPart w t v) : dep w v = deep t := by
  unfold dep
  rw [dif_pos ⟨t, h⟩]
  exact deep_same (Exists.choose_spec (⟨t, h⟩ : ∃ t, IsPart w t v)) h
/-- where the chain ends -/
def chain : FT → FT
  | .wrap _ _ t => chain t
  | t => t
theorem m_kind (h : Value) (w : World) : (Go.method 267 107 (.agg #[h]) "Kind").run Tryd.prog w = .ok (69, h) w := by kernel_rfl
theorem m_asg (h : Value) (w : World) : (Go.method 267 107 (.agg #[h]) "AssignableTo").run Tryd.prog w = .ok (85, .agg #[h]) w := by kernel_rfl
theorem taA_c (v : Value) (xT : TypeId) (w : World) : (Instr.typeAssert (.iface 55 v) xT 111 true).run Tryd.prog w = .ok (.tuple #[.nilIface, .bool false]) w := run_typeAssert_lacksB Tryd.underlying111 (by kernel_rfl) (by kernel_rfl) v xT w
theorem taA_w (v : Value) (xT : TypeId) (w : World) : (Instr.typeAssert (.iface 78 v) xT 111 true).run Tryd.prog w = .ok (.tuple #[.nilIface, .bool false]) w := run_typeAssert_lacksB Tryd.underlying111 (by kernel_rfl) (by kernel_rfl) v xT w
theorem taA_b (v : Value) (xT : TypeId) (w : World) : (Instr.typeAssert (.iface 59 v) xT 111 true).run Tryd.prog w = .ok (.tuple #[.nilIface, .bool false]) w := run_typeAssert_lacksB Tryd.underlying111 (by kernel_rfl) (by kernel_rfl) v xT w
theorem taU_c (v : Value) (xT : TypeId) (w : World) : (Instr.typeAssert (.iface 55 v) xT 114 true).run Tryd.prog w = .ok (.tuple #[.nilIface, .bool false]) w := run_typeAssert_lacksB Tryd.underlying114 (by kernel_rfl) (by kernel_rfl) v xT w
theorem taU_w (v : Value) (xT : TypeId) (w : World) : (Instr.typeAssert (.iface 78 v) xT 114 true).run Tryd.prog w = .ok (.tuple #[.iface 78 v, .bool true]) w := run_typeAssert_hasB Tryd.underlying114 (by kernel_rfl) v xT w
theorem taU_b (v : Value) (xT : TypeId) (w : World) : (Instr.typeAssert (.iface 59 v) xT 114 true).run Tryd.prog w = .ok (.tuple #[.nilIface, .bool false]) w := run_typeAssert_lacksB Tryd.underlying114 (by kernel_rfl) (by kernel_rfl) v xT w
theorem taUU_c (v : Value) (xT : TypeId) (w : World) : (Instr.typeAssert (.iface 55 v) xT 116 true).run Tryd.prog w = .ok (.tuple #[.nilIface, .bool false]) w := run_typeAssert_lacksB Tryd.underlying116 (by kernel_rfl) (by kernel_rfl) v xT w
theorem taUU_w (v : Value) (xT : TypeId) (w : World) : (Instr.typeAssert (.iface 78 v) xT 116 true).run Tryd.prog w = .ok (.tuple #[.nilIface, .bool false]) w := run_typeAssert_lacksB Tryd.underlying116 (by kernel_rfl) (by kernel_rfl) v xT w
theorem taUU_b (v : Value) (xT : TypeId) (w : World) : (Instr.typeAssert (.iface 59 v) xT 116 true).run Tryd.prog w = .ok (.tuple #[.nilIface, .bool false]) w := run_typeAssert_lacksB Tryd.underlying116 (by kernel_rfl) (by kernel_rfl) v xT w
theorem taI_c (v : Value) (xT : TypeId) (w : World) : (Instr.typeAssert (.iface 55 v) xT 125 true).run Tryd.prog w = .ok (.tuple #[.iface 55 v, .bool true]) w := run_typeAssert_hasB Tryd.underlying125 (by kernel_rfl) v xT w
theorem taI_w (v : Value) (xT : TypeId) (w : World) : (Instr.typeAssert (.iface 78 v) xT 125 true).run Tryd.prog w = .ok (.tuple #[.nilIface, .bool false]) w := run_typeAssert_lacksB Tryd.underlying125 (by kernel_rfl) (by kernel_rfl) v xT w
theorem taI_b (v : Value) (xT : TypeId) (w : World) : (Instr.typeAssert (.iface 59 v) xT 125 true).run Tryd.prog w = .ok (.tuple #[.nilIface, .bool false]) w := run_typeAssert_lacksB Tryd.underlying125 (by kernel_rfl) (by kernel_rfl) v xT w
theorem m_unw (v : Value) (w : World) : (Go.method 267 78 v "Unwrap").run Tryd.prog w = .ok (78, v) w := by kernel_rfl
/-- what errors.as leaves in a variable of type coded that held o, at a chain that ends in t -/
def resC : FT → Value × Value × Value → Bool × Value × Value × Value
  | .code op n c, _ => (true, .string op, .int .i64 n, .int .i64 c)
  | _, o => (false, o)
/-- .. of type combined; p, q: where the two faults lie -/
def resB (v : Value) : FT → Value × Value → Bool × Value × Value
  | .both _ _, _ => (true, match v with | .iface _ (.agg a) => (a.getD 0 .nilIface, a.getD 1 .nilIface) | _ => (.nilIface, .nilIface))
  | _, o => (false, o)
abbrev rT (t : TypeId) : Value := .iface 107 (.agg #[.pointer (some ⟨4, t, none⟩)])
theorem J3 {B : Nat} {W w : World} {l : List (Nat × Array Value × TypeId)} (h : Keeps B W l w) (cs : Array Value) (t : TypeId) : Keeps B W l (w.alloc (.cells cs t)) := (h.alloc cs t).tail
set_option maxRecDepth 100000 in
set_option maxHeartbeats 4000000 in
theorem as_c (t0 : FT) (v0 : Value) (w0 w : World) (hp : IsPart w0 t0 v0) (hw : Below w0.heap.size w0 w) (g ga : Nat) (o1 o2 o3 : Value) (T1 T2 : TypeId) (hg : Box w g #[o1, o2, o3] T1) (hga : Box w ga #[ptr g 0] T2) (g0 : w0.heap.size ≤ g) (ga0 : w0.heap.size ≤ ga) (hne : g ≠ ga) (x : Value) :
    Calls Tryd.prog 37 #[v0, x, .agg #[.pointer (some ⟨4, 83, none⟩), ptr ga 0, .int .u64 150], rT 55] w fun e w' => e = .returned (.bool (resC (chain t0) (o1, o2, o3)).1) ∧ Box w' g #[(resC (chain t0) (o1, o2, o3)).2.1, (resC (chain t0) (o1, o2, o3)).2.2.1, (resC (chain t0) (o1, o2, o3)).2.2.2] T1 ∧ Below w0.heap.size w0 w' := by
  have h10 := @run_callFunc_extern Tryd.prog 40 _ ReflectliteType.typeOf Tryd.func40 (by kernel_rfl) (by kernel_rfl) (by kernel_rfl) (by kernel_rfl)
  have h35 := @run_callFunc_extern Tryd.prog 85 _ (ReflectliteType.relation "AssignableTo" ReflectliteType.assignableTo) Tryd.func85 (by kernel_rfl) (by kernel_rfl) (by kernel_rfl) (by kernel_rfl)
  have h11 := @run_callFunc_extern Tryd.prog 42 _ (ReflectliteValue.method (ReflectliteValue.valueError "reflectlite.Value.Elem" 0) ReflectliteValue.elem) Tryd.func42 (by kernel_rfl) (by kernel_rfl) (by kernel_rfl) (by kernel_rfl)
  have h12 := @run_callFunc_extern Tryd.prog 43 _ ReflectliteValue.set Tryd.func43 (by kernel_rfl) (by kernel_rfl) (by kernel_rfl) (by kernel_rfl)
  have h6 := @run_callFunc_extern Tryd.prog 34 _ (fun args => ReflectliteValue.unpack (args.getD 0 (.tuple #[]))) Tryd.func34 (by kernel_rfl) (by kernel_rfl) (by kernel_rfl) (by kernel_rfl)
  have mA := m_asg
  have t1 := tyof_c
  have t2 := tyof_w
  have t3 := tyof_b
  have a1 := asg_cc
  have a2 := asg_wc
  have a3 := asg_bc
  have v1 := vofv_c
  have taA1 := taA_w
  have taA2 := taA_b
  have taU1 := taU_w
  have taU2 := taU_b
  have taV1 := taUU_w
  have taV2 := taUU_b
  have mU := m_unw
  go_enter Tryd.func37, Tryd.ntmps37
  have J0 : Keeps w0.heap.size w0 [(w.heap.size, #[.pointer (some ⟨4, 83, none⟩), ptr ga 0, .int .u64 150], 93), (g, #[o1, o2, o3], T1), (ga, #[ptr g 0], T2)] (w.alloc (.cells #[.pointer (some ⟨4, 83, none⟩), ptr ga 0, .int .u64 150] 93)) :=
    Keeps.alloc ⟨fun x hx => by
      rcases List.mem_cons.1 hx with rfl | hx
      · exact hg
      · rw [List.mem_singleton.1 hx]; exact hga, hw, hw.size⟩ _ _
  have HJ := Lib.hid J0
  have HP := Lib.hid hp
  clear J0 hp hw hg hga
  go_wp2
  go_loopw [0] (fun v wr => ∃ t, IsPart w0 t v ∧ Hid (chain t = chain t0) ∧ Hid (Keeps w0.heap.size w0 [(w.heap.size, #[.pointer (some ⟨4, 83, none⟩), ptr ga 0, .int .u64 150], 93), (g, #[o1, o2, o3], T1), (ga, #[ptr g 0], T2)] wr)) (fun v _ => dep w0 v)
  case atStart => exact ⟨t0, HP.out, rfl, HJ.out⟩
  case round =>
    obtain ⟨t, HT, HC, J⟩ := hrel
    cases t with
    | code op n c =>
      obtain rfl := HT
      have hb := J.out.head
      have b0 := hb.cell 0
      have b1 := hb.cell 1
      have b2 := hb.cell 2
      simp at b0 b1 b2
      have hgx := J.out.tail.head
      have hgax := J.out.tail.tail.head
      have hlg := hgx.lt
      have el := elemV_c ⟨ga, 0, none⟩ ⟨g, 0, none⟩ wr (by rw [hgax.cell 0]; rfl)
      have st := set_c g wr.heap.size (.string op) (.int .i64 n) (.int .i64 c) o1 o2 o3 _ T1 (wr.alloc (.cells #[.string op, .int .i64 n, .int .i64 c] 55)) rfl rfl rfl (Box.new wr _ _) (hgx.alloc _) (by omega)
      have HR : Hid (resC (chain t0) (o1, o2, o3) = (true, .string op, .int .i64 n, .int .i64 c)) := by show _ = _; rw [← HC.out]; rfl
      go_wp2
      go_ret
      rw [HR.out]
      refine ⟨rfl, ?_, ?_⟩
      · exact (((hgx.set 0 (.string op)).set 1 (.int .i64 n)).set 2 (.int .i64 c)).alloc _
      · exact (((J.out.2.1.setCell (p := ⟨g, 0, none⟩) g0 _).setCell (p := ⟨g, 1, none⟩) g0 _).setCell (p := ⟨g, 2, none⟩) g0 _).alloc (by simp; exact J.out.2.2) _
    | wrap op n t' =>
      obtain ⟨b, u, rfl, hx, hu⟩ := HT
      obtain ⟨T, y, rfl⟩ := part_iface hu
      have hxr := hx.below J.out.2.1 hx.lt
      have cb := fun o => (hxr.alloc o).cell 0
      simp at cb
      have HU := Lib.hid hu
      have hd := dep_eq hu
      have hd2 := dep_eq (show IsPart w0 (.wrap op n t') (wrapV op n (some ⟨b, 0, none⟩)) from ⟨b, _, rfl, hx, hu⟩)
      have HD : Hid (dep w0 (.iface T y) < dep w0 (wrapV op n (some ⟨b, 0, none⟩))) := by show _ < _; rw [hd, hd2, deep]; omega
      clear hd hd2 hu
      go_wp2
      exact ⟨⟨t', HU.out, HC, J3 J.out _ _⟩, HD.out⟩
    | both a b =>
      obtain ⟨p, q, u, u', rfl, ⟨hx, hu⟩, ⟨hy, hv⟩⟩ := HT
      have HR : Hid (resC (chain t0) (o1, o2, o3) = (false, o1, o2, o3)) := by show _ = _; rw [← HC.out]; rfl
      go_wp2
      go_ret
      rw [HR.out]
      exact ⟨rfl, J.out.tail.head, J.out.2.1⟩
end Go.Proofs.YtndofhcnjmbfeaaDoor
