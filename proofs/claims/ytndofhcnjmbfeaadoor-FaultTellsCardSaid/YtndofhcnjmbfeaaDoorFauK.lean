/- errors.Is over trees of faults: for a code, for a class. -/
import Derived.Test.YtndofhcnjmbfeaaDoorFauJ
import Derived.Test.YtndofhcnjmbfeaaDoorFauB
namespace Go.Proofs.YtndofhcnjmbfeaaDoor
open Go.RowKit Go.Extern.Stop Go.Stop Go.Extern
set_option linter.unusedVariables false
set_option linter.unusedSimpArgs false

/-- what errors.Is is to find: a code, or a class -/
inductive Want where
  | code (k : Int)
  | cls (k : Int)
abbrev wT : Want → TypeId
  | .code _ => 80
  | .cls _ => 81
abbrev wK : Want → Int
  | .code k => k
  | .cls k => k
/-- whether a code is wanted -/
def fits : Want → Int → Bool
  | .code k, c => c == k
  | .cls k, c => clN c == k
set_option maxRecDepth 100000 in
theorem tsCC (k : Int) (w : World) : (Instr.typeAssert (.iface 80 (.int .i64 k)) 70 80 true).run Tryd.prog w = .ok (.tuple #[.int .i64 k, .bool true]) w := rfl
set_option maxRecDepth 100000 in
theorem tsLC (k : Int) (w : World) : (Instr.typeAssert (.iface 81 (.int .i64 k)) 70 80 true).run Tryd.prog w = .ok (.tuple #[.int .i64 0, .bool false]) w := rfl
set_option maxRecDepth 100000 in
theorem tsLL (k : Int) (w : World) : (Instr.typeAssert (.iface 81 (.int .i64 k)) 70 81 true).run Tryd.prog w = .ok (.tuple #[.int .i64 k, .bool true]) w := rfl
set_option maxRecDepth 100000 in
theorem fau_is (op : ByteArray) (n c : Int) (W : Want) (w : World) :
    Calls Tryd.prog 74 #[.agg #[.string op, .int .i64 n, .int .i64 c], .iface (wT W) (.int .i64 (wK W))] w fun e w' => e = .returned (.bool (fits W c)) ∧ Below w.heap.size w w' := by
  have s1 := tsCC
  have s2 := tsLC
  have s3 := tsLL
  cases W with
  | code k =>
    go_enter Tryd.func74, Tryd.ntmps74
    go_wp2
    go_ret
    exact ⟨rfl, (Below.refl _ _).alloc (Nat.le_refl _) _⟩
  | cls k =>
    go_enter Tryd.func74, Tryd.ntmps74
    go_wp2_with (go_at_call 19; refine (fau_class c _).mono ?_; rintro e w1 ⟨rfl, rfl⟩)
    go_ret
    exact ⟨rfl, (Below.refl _ _).alloc (Nat.le_refl _) _⟩
/-- whether the code at the end of a chain is wanted -/
def fitsEnd (W : Want) : FT → Bool
  | .code _ _ c => fits W c
  | _ => false
theorem m_is (v : Value) (w : World) : (Go.method 267 55 v "Is").run Tryd.prog w = .ok (74, v) w := by kernel_rfl
theorem ne_cw (W : Want) : 55 ≠ wT W := by
  cases W with
  | code k => exact (by decide : (55 : TypeId) ≠ 80)
  | cls k => exact (by decide : (55 : TypeId) ≠ 81)
theorem ne_ww (W : Want) : 78 ≠ wT W := by
  cases W with
  | code k => exact (by decide : (78 : TypeId) ≠ 80)
  | cls k => exact (by decide : (78 : TypeId) ≠ 81)
theorem ne_bw (W : Want) : 59 ≠ wT W := by
  cases W with
  | code k => exact (by decide : (59 : TypeId) ≠ 80)
  | cls k => exact (by decide : (59 : TypeId) ≠ 81)
set_option maxRecDepth 100000 in
set_option maxHeartbeats 4000000 in
theorem is_f (t0 : FT) (v0 : Value) (w0 w : World) (hp : IsPart w0 t0 v0) (hw : Below w0.heap.size w0 w) (W : Want) :
    Calls Tryd.prog 41 #[v0, .iface (wT W) (.int .i64 (wK W)), .bool true] w fun e w' => e = .returned (.bool (fitsEnd W (chain t0))) ∧ Below w0.heap.size w0 w' := by
  have q1 := fun vx w => run_eql_iface_types (P := Tryd.prog) 55 (wT W) vx (.int .i64 (wK W)) Tryd.underlying70 (ne_cw W) w
  have q2 := fun vx w => run_eql_iface_types (P := Tryd.prog) 78 (wT W) vx (.int .i64 (wK W)) Tryd.underlying70 (ne_ww W) w
  have q3 := fun vx w => run_eql_iface_types (P := Tryd.prog) 59 (wT W) vx (.int .i64 (wK W)) Tryd.underlying70 (ne_bw W) w
  have i1 := taI_c
  have i2 := taI_w
  have i3 := taI_b
  have u0 := taU_c
  have u1 := taU_w
  have u2 := taU_b
  have x0 := taUU_c
  have x1 := taUU_w
  have x2 := taUU_b
  have mU := m_unw
  have mI := m_is
  have KI := Lib.hid (fun op n c w => fau_is op n c W w)
  generalize hT : wT W = T at *
  generalize hK : wK W = K at *
  have HP := Lib.hid hp
  have HW := Lib.hid hw
  clear hp hw hT hK
  go_enter Tryd.func41, Tryd.ntmps41
  go_wp2
  go_loopw [0] (fun v wr => ∃ t, IsPart w0 t v ∧ Hid (chain t = chain t0) ∧ Hid (Below w0.heap.size w0 wr)) (fun v _ => dep w0 v)
  case atStart => exact ⟨t0, HP.out, rfl, HW.out⟩
  case round =>
    obtain ⟨t, HT, HC, HB⟩ := hrel
    cases t with
    | code op n c =>
      obtain rfl := HT
      have HR : Hid (fitsEnd W (chain t0) = fits W c) := by show _ = _; rw [← HC.out]; rfl
      have KI2 := Lib.hid (KI.out op n c)
      generalize fits W c = r at *
      cases r
      all_goals
        go_wp2_with (go_at_call 74; refine (KI2.out _).mono ?_; rintro e w1 ⟨rfl, hb1⟩)
        go_ret
        exact ⟨by rw [HR.out]; rfl, HB.out.trans (hb1.mono HB.out.size)⟩
    | wrap op n t' =>
      obtain ⟨b, u, rfl, hx, hu⟩ := HT
      obtain ⟨T2, y, rfl⟩ := part_iface hu
      have hxr := hx.below HB.out hx.lt
      have cb := fun o => (hxr.alloc o).cell 0
      simp at cb
      have HU := Lib.hid hu
      have hd := dep_eq hu
      have hd2 := dep_eq (show IsPart w0 (.wrap op n t') (wrapV op n (some ⟨b, 0, none⟩)) from ⟨b, _, rfl, hx, hu⟩)
      have HD : Hid (dep w0 (.iface T2 y) < dep w0 (wrapV op n (some ⟨b, 0, none⟩))) := by show _ < _; rw [hd, hd2, deep]; omega
      clear hd hd2 hu
      go_wp2
      exact ⟨⟨t', HU.out, HC, HB.out.alloc HB.out.size _⟩, HD.out⟩
    | both a b =>
      obtain ⟨p, q, u, u', rfl, ⟨hx, hu⟩, ⟨hy, hv⟩⟩ := HT
      have HR : Hid (fitsEnd W (chain t0) = false) := by show _ = _; rw [← HC.out]; rfl
      go_wp2
      go_ret
      exact ⟨by rw [HR.out]; rfl, HB.out⟩
end Go.Proofs.YtndofhcnjmbfeaaDoor
