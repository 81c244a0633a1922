/- errors.Is over trees of faults. -/
import Derived.Test.YtndofhcnjmbfeaaDoorFauK
namespace Go.Proofs.YtndofhcnjmbfeaaDoor
open Go.RowKit Go.Extern.Stop Go.Stop Go.Extern
set_option linter.unusedVariables false
set_option linter.unusedSimpArgs false

theorem tyof_k (v : Value) (w : World) : (ReflectliteType.typeOf #[.iface 80 v]).run Tryd.prog w = .ok (rT 80) w := by kernel_rfl
theorem tyof_l (v : Value) (w : World) : (ReflectliteType.typeOf #[.iface 81 v]).run Tryd.prog w = .ok (rT 81) w := by kernel_rfl
/-- the entry for Comparable -/
def cmpF : Array Value → Sem Value := ReflectliteType.method fun t => do Rtype.noPackHeld "Comparable" t; pure (.bool (← typeInfo t).comparable)
theorem cmp_k (w : World) : (cmpF #[.agg #[.pointer (some ⟨4, 80, none⟩)]]).run Tryd.prog w = .ok (.bool true) w := by kernel_rfl
theorem cmp_l (w : World) : (cmpF #[.agg #[.pointer (some ⟨4, 81, none⟩)]]).run Tryd.prog w = .ok (.bool true) w := by kernel_rfl
theorem m_cmp (v : Value) (w : World) : (Go.method 267 107 v "Comparable").run Tryd.prog w = .ok (86, v) w := by kernel_rfl
set_option maxRecDepth 100000 in
set_option maxHeartbeats 4000000 in
theorem Is_f (t0 : FT) (v0 : Value) (w : World) (hp : IsPart w t0 v0) (W : Want) :
    Calls Tryd.prog 33 #[v0, .iface (wT W) (.int .i64 (wK W))] w fun e w' => e = .returned (.bool (fitsEnd W (chain t0))) ∧ Below w.heap.size w w' := by
  have h8 := @run_callFunc_extern Tryd.prog 40 _ ReflectliteType.typeOf Tryd.func40 (by kernel_rfl) (by kernel_rfl) (by kernel_rfl) (by kernel_rfl)
  have h32 := @run_callFunc_extern Tryd.prog 86 _ cmpF Tryd.func86 (by kernel_rfl) (by kernel_rfl) (by kernel_rfl) (by kernel_rfl)
  have f1 := tyof_k
  have f2 := tyof_l
  have c1 := cmp_k
  have c2 := cmp_l
  have mC := m_cmp
  have KA := Lib.hid (fun w1 h => is_f t0 v0 w w1 hp h W)
  obtain ⟨Tv, y, rfl⟩ := part_iface hp
  clear hp
  cases W with
  | code k =>
    generalize fitsEnd (.code k) (chain t0) = R at *
    go_enter Tryd.func33, Tryd.ntmps33
    go_wp2_with (go_at_call 41; refine (KA.out _ (Below.refl _ _)).mono ?_; rintro e w1 ⟨rfl, hb1⟩)
    go_ret
    exact ⟨rfl, hb1⟩
  | cls k =>
    generalize fitsEnd (.cls k) (chain t0) = R at *
    go_enter Tryd.func33, Tryd.ntmps33
    go_wp2_with (go_at_call 41; refine (KA.out _ (Below.refl _ _)).mono ?_; rintro e w1 ⟨rfl, hb1⟩)
    go_ret
    exact ⟨rfl, hb1⟩
end Go.Proofs.YtndofhcnjmbfeaaDoor
