/- Contracts of package fault: New, Wrap, Both, Unwrap, Class. -/
import Derived.Test.YtndofhcnjmbfeaaDoorBase
namespace Go.Proofs.YtndofhcnjmbfeaaDoor
open Go.RowKit

/-- what lies in a fault's block -/
abbrev codedV (op : ByteArray) (n code : Int) : Value := .iface 55 (.agg #[.string op, .int .i64 n, .int .i64 code])
abbrev wrapV (op : ByteArray) (n : Int) (p : Option Addr) : Value := .iface 78 (.agg #[.string op, .int .i64 n, .pointer p])
abbrev bothV (p q : Option Addr) : Value := .iface 59 (.agg #[.pointer p, .pointer q])
theorem fau_new0 (op : ByteArray) (n : Int) (w : World) :
    Calls Tryd.prog 15 #[.string op, .int .i64 n, .int .i64 0] w fun e w' => e = .returned (.pointer none) ∧ w' = w := by
  go_enter Tryd.func15, Tryd.ntmps15
  go_wp2
  go_ret
  exact ⟨rfl, rfl⟩
theorem fau_new (op : ByteArray) (n code : Int) (hc : code ≠ 0) (w : World) :
    Calls Tryd.prog 15 #[.string op, .int .i64 n, .int .i64 code] w fun e w' => e = .returned (ptr w.heap.size 0) ∧ w' = w.alloc (.cells #[codedV op n code] 74) := by
  have hb : (code == 0) = false := by simpa using hc
  go_enter Tryd.func15, Tryd.ntmps15
  go_wp2
  go_ret
  exact ⟨rfl, rfl⟩
theorem fau_wrap0 (op : ByteArray) (n : Int) (w : World) :
    Calls Tryd.prog 14 #[.string op, .int .i64 n, .pointer none] w fun e w' => e = .returned (.pointer none) ∧ w' = w := by
  go_enter Tryd.func14, Tryd.ntmps14
  go_wp2
  go_ret
  exact ⟨rfl, rfl⟩
theorem fau_wrap (op : ByteArray) (n : Int) (p : Addr) (w : World) :
    Calls Tryd.prog 14 #[.string op, .int .i64 n, .pointer (some p)] w fun e w' => e = .returned (ptr w.heap.size 0) ∧ w' = w.alloc (.cells #[wrapV op n (some p)] 74) := by
  go_enter Tryd.func14, Tryd.ntmps14
  go_wp2
  go_ret
  exact ⟨rfl, rfl⟩
theorem fau_both_n (q : Option Addr) (w : World) :
    Calls Tryd.prog 16 #[.pointer none, .pointer q] w fun e w' => e = .returned (.pointer q) ∧ w' = w := by
  go_enter Tryd.func16, Tryd.ntmps16
  go_wp2
  go_ret
  exact ⟨rfl, rfl⟩
theorem fau_both_1 (p : Addr) (w : World) :
    Calls Tryd.prog 16 #[.pointer (some p), .pointer none] w fun e w' => e = .returned (.pointer (some p)) ∧ w' = w := by
  go_enter Tryd.func16, Tryd.ntmps16
  go_wp2
  go_ret
  exact ⟨rfl, rfl⟩
theorem fau_both (p q : Addr) (w : World) :
    Calls Tryd.prog 16 #[.pointer (some p), .pointer (some q)] w fun e w' => e = .returned (ptr w.heap.size 0) ∧ w' = w.alloc (.cells #[bothV (some p) (some q)] 74) := by
  go_enter Tryd.func16, Tryd.ntmps16
  go_wp2
  go_ret
  exact ⟨rfl, rfl⟩
theorem fau_unwrap0 (w : World) :
    Calls Tryd.prog 72 #[.pointer none] w fun e w' => e = .returned .nilIface ∧ w' = w := by
  go_enter Tryd.func72, Tryd.ntmps72
  go_wp2
  go_ret
  exact ⟨rfl, rfl⟩
/-- which part it is -/
abbrev wrapZ : Value := .agg #[.string ⟨#[]⟩, .int .i64 0, .pointer none]
abbrev bothZ : Value := .agg #[.pointer none, .pointer none]
set_option maxRecDepth 100000 in
theorem as_wrap_c (op : ByteArray) (n code : Int) (W : World) : (Instr.typeAssert (codedV op n code) 70 78 true).run Tryd.prog W = .ok (.tuple #[wrapZ, .bool false]) W := rfl
set_option maxRecDepth 100000 in
theorem as_wrap_w (op : ByteArray) (n : Int) (p : Option Addr) (W : World) : (Instr.typeAssert (wrapV op n p) 70 78 true).run Tryd.prog W = .ok (.tuple #[.agg #[.string op, .int .i64 n, .pointer p], .bool true]) W := rfl
set_option maxRecDepth 100000 in
theorem as_wrap_b (p q : Option Addr) (W : World) : (Instr.typeAssert (bothV p q) 70 78 true).run Tryd.prog W = .ok (.tuple #[wrapZ, .bool false]) W := rfl
set_option maxRecDepth 100000 in
theorem as_both_c (op : ByteArray) (n code : Int) (W : World) : (Instr.typeAssert (codedV op n code) 70 59 true).run Tryd.prog W = .ok (.tuple #[bothZ, .bool false]) W := rfl
set_option maxRecDepth 100000 in
theorem as_both_b (p q : Option Addr) (W : World) : (Instr.typeAssert (bothV p q) 70 59 true).run Tryd.prog W = .ok (.tuple #[.agg #[.pointer p, .pointer q], .bool true]) W := rfl
set_option maxRecDepth 100000 in
theorem as_both_w (op : ByteArray) (n : Int) (p : Option Addr) (W : World) : (Instr.typeAssert (wrapV op n p) 70 59 true).run Tryd.prog W = .ok (.tuple #[bothZ, .bool false]) W := rfl
set_option maxRecDepth 100000 in
set_option maxHeartbeats 400000 in
theorem fau_unwrap_c (b : Nat) (op : ByteArray) (n code : Int) (t : TypeId) (w : World) (h : Box w b #[codedV op n code] t) :
    Calls Tryd.prog 72 #[ptr b 0] w fun e w' => e = .returned .nilIface ∧ Below w.heap.size w w' := by
  have h0 := h.cell 0
  have h1 := (h.alloc (.cells #[.string ⟨#[]⟩, .int .i64 0, .pointer none] 78)).cell 0
  simp at h0 h1
  have a1 := as_wrap_c op n code
  have a2 := as_both_c op n code
  have J := Lib.hid ((((Below.refl w.heap.size w).alloc (Nat.le_refl _) (.cells #[.string ⟨#[]⟩, .int .i64 0, .pointer none] 78))).alloc (by simp) (.cells #[.pointer none, .pointer none] 59))
  clear h
  go_enter Tryd.func72, Tryd.ntmps72
  go_wp2
  go_ret
  exact ⟨rfl, J.out⟩
set_option maxRecDepth 100000 in
set_option maxHeartbeats 400000 in
theorem fau_unwrap_w (b : Nat) (op : ByteArray) (n : Int) (p : Addr) (t : TypeId) (w : World) (h : Box w b #[wrapV op n (some p)] t) :
    Calls Tryd.prog 72 #[ptr b 0] w fun e w' => e = .returned (.iface 31 (.pointer (some p))) ∧ Below w.heap.size w w' := by
  have h0 := h.cell 0
  simp at h0
  have a1 := as_wrap_w op n (some p)
  have J := Lib.hid (Box.new w #[.string op, .int .i64 n, .pointer (some p)] 78)
  have z0 := J.out.cell 2
  simp at z0
  have B := Lib.hid ((Below.refl w.heap.size w).alloc (Nat.le_refl _) (.cells #[.string op, .int .i64 n, .pointer (some p)] 78))
  clear h
  go_enter Tryd.func72, Tryd.ntmps72
  go_wp2
  go_ret
  exact ⟨rfl, B.out⟩
set_option maxRecDepth 100000 in
set_option maxHeartbeats 400000 in
theorem fau_unwrap_b (b : Nat) (p q : Option Addr) (t : TypeId) (w : World) (h : Box w b #[bothV p q] t) :
    Calls Tryd.prog 72 #[ptr b 0] w fun e w' => e = .returned (.iface 152 (.agg #[.pointer p, .pointer q])) ∧ Below w.heap.size w w' := by
  have h0 := h.cell 0
  have h1 := (h.alloc (.cells #[.string ⟨#[]⟩, .int .i64 0, .pointer none] 78)).cell 0
  simp at h0 h1
  have a1 := as_wrap_b p q
  have a2 := as_both_b p q
  have J := Lib.hid ((((Below.refl w.heap.size w).alloc (Nat.le_refl _) (.cells #[.string ⟨#[]⟩, .int .i64 0, .pointer none] 78))).alloc (by simp) (.cells #[.pointer p, .pointer q] 59))
  have J2 := Box.new (w.alloc (.cells #[.string ⟨#[]⟩, .int .i64 0, .pointer none] 78)) #[.pointer p, .pointer q] 59
  rw [alloc_size'] at J2
  have z0 := J2.cell 0
  have z1 := J2.cell 1
  simp at z0 z1
  clear h J2
  go_enter Tryd.func72, Tryd.ntmps72
  go_wp2
  go_ret
  exact ⟨rfl, J.out⟩

end Go.Proofs.YtndofhcnjmbfeaaDoor
