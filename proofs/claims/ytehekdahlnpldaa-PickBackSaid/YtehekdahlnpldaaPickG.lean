import Derived.RangeFuncNested
import Derived.RangeFuncBound
import Derived.RangeFuncCalls
import Derived.RangeFuncLeaves
import Derived.RangeFuncBox
import Derived.Shelf.Abstract
import Derived.WalkKit
import Derived.OwnWalkIn
import Derived.TacticsInMore
import Derived.LoopNIn
import Derived.LoopIn
import Derived.Maps.AppendAt
import Derived.Test.YtehekdahlnpldaaPickN

/-! Layer 7: the first numbers of a list, by an iterator. -/
namespace Go.Proofs.Ytehekdahlnpldaa
open Go.RowKit Go.Shelf Go.Maps
set_option linter.unusedVariables false
set_option linter.unusedSimpArgs false
attribute [local go_sem] Oper.semAt_some

/-- two blocks lie as they lay -/
def KpL (B Bl : Nat) (W W' : World) : Prop := W'.heap[B]? = W.heap[B]? ∧ W'.heap[Bl]? = W.heap[Bl]?
set_option maxRecDepth 100000 in
set_option maxHeartbeats 1000000 in
theorem first1_in (n : Nat) (hn : 1 ≤ n) (l Bk Bl B m k : Nat) (f : Int → Int) (J Jx : List Int → World → Prop) (hk : k ≤ 1000)
    (hY : ∀ pre x W, J pre W → pre.length < k → YieldAt Fence.wide (n - 1) Try.prog l #[.int .i64 x] W fun e W' =>
      (e = .returned (.bool true) ∧ J (pre ++ [x]) W' ∧ KpL B Bl W W') ∨ (e = .returned (.bool false) ∧ Jx (pre ++ [x]) W'))
    (W : World) (hBk : W.cell? ⟨Bk, 0, none⟩ = some (.int .i64 k)) (hBl : Boxed W Bl 115 (.map (some B))) (hM : IMap W B m f) (h0 : J [] W) :
    CallsIn Fence.wide n Try.prog 128 #[.func (.yield l) #[] #[], .pointer (some ⟨Bk, 0, none⟩), .pointer (some ⟨Bl, 0, none⟩)] W fun e W' => (∃ v, e = .returned v) ∧
      ((∃ ys, ys = upF f k ∧ J ys W') ∨ (∃ pre, pre <+: upF f k ∧ Jx pre W')) := by
  refine callsIn_of_wp Try.func128 rfl trivial ?_ rfl
  simp only [Try.ntmps128, List.size_toArray, List.length_cons, List.length_nil, Nat.reduceAdd, Nat.reduceSub, Array.replicate_succ, Array.replicate_zero, List.push_toArray, List.append_toArray, List.nil_append, List.cons_append]
  gi_wp2
  gi_loopw [6] (fun i wr => ∃ j : Nat, j ≤ k ∧ i = .int .i64 j ∧ Hid (IMap wr B m f) ∧ Hid (Boxed wr Bl 115 (.map (some B))) ∧ Hid (J (upF f j) wr)) (fun i _ => k - (intOf i).toNat)
  case atStart => exact ⟨0, by omega, rfl, hM, hBl, h0⟩
  case round =>
    obtain ⟨j, hj, rfl, HM, HBl, HJ⟩ := hrel
    by_cases hlt : j < k
    · have hlg : (j : Int) < (k : Int) := by omega
      have hc := HBl.out.cell
      have K := Lib.hid (list_at B m f j wr HM.out (by unfold I64; omega))
      obtain ⟨fn, tmps, assign, body, hy, hR⟩ := hY (upF f j) (f j) wr HJ.out (by rw [upF_len]; exact hlt)
      have HS := Lib.hid (upF_succ f j)
      generalize f (j : Int) = y at *
      gi_wp2_with (refine ⟨trivial, ?_⟩; gi_at_call 102; refine (callsIn_wide.2 K.out).mono ?_; rintro e w2 ⟨rfl, rfl⟩)
      refine hR.mono ?_
      rintro e W3 (⟨rfl, hJ3, hk3⟩ | ⟨rfl, hJx3⟩)
      · have HM3 := Lib.hid (HM.out.same hk3.1)
        have HB3 : Hid (Boxed W3 Bl 115 (.map (some B))) := hk3.2.trans HBl.out
        have HJ3 := Lib.hid hJ3
        clear hJ3 hk3 hy hR
        gi_wp2
        go_roundw
        case rel => exact ⟨j + 1, by omega, by go_num, HM3.out, HB3.out, by show J _ _; rw [HS.out]; exact HJ3.out⟩
        case measure => first | (simp [intOf]; done) | (simp [intOf]; omega)
      · gi_wp2
        refine bodyPost_ret (results_none rfl _ _ _) rfl ?_
        exact ⟨⟨_, rfl⟩, .inr ⟨upF f j ++ [y], by rw [← HS.out, ← upF_take f (show j + 1 ≤ k from by omega)]; exact List.take_prefix _ _, hJx3⟩⟩
    · obtain rfl : j = k := by omega
      gi_wp2
      go_end0
      exact ⟨⟨_, rfl⟩, .inl ⟨_, rfl, HJ.out⟩⟩
set_option maxHeartbeats 1000000 in
theorem first_in (n B k : Nat) (w : World) :
    CallsIn Fence.wide n Try.prog 100 #[.map (some B), .int .i64 k] w fun e w' => e = .returned (.func (.func 128) #[] #[.pointer (some ⟨w.heap.size + 1, 0, none⟩), .pointer (some ⟨w.heap.size, 0, none⟩)]) ∧ w' = (w.alloc (.cells #[.map (some B)] 115)).alloc (.cells #[.int .i64 k] 3) := by
  refine callsIn_of_wp Try.func100 rfl trivial ?_ rfl
  simp only [Try.ntmps100, List.size_toArray, List.length_cons, List.length_nil, Nat.reduceAdd, Nat.reduceSub, Array.replicate_succ, Array.replicate_zero, List.push_toArray, List.append_toArray, List.nil_append, List.cons_append]
  gi_wp2
  go_ret
  exact ⟨by simp, rfl⟩
theorem first_stops (n B Bl Bk m k : Nat) (f : Int → Int) (w : World) (hn : 1 ≤ n) (hk : k ≤ 1000) (hbk : Bk < w.heap.size) (hbl : Bl < w.heap.size) (hBk : w.cell? ⟨Bk, 0, none⟩ = some (.int .i64 k)) (hBl : Boxed w Bl 115 (.map (some B))) (hM : IMap w B m f) :
    SeqStopsK Fence.wide n Try.prog 128 #[.pointer (some ⟨Bk, 0, none⟩), .pointer (some ⟨Bl, 0, none⟩)] (fun x : Int => #[Value.int .i64 x]) (KpL B Bl) (fun ys => ys = upF f k) (fun pre => pre <+: upF f k) k w := fun l J Jx W hW _ _ hY h0 =>
  first1_in n hn l Bk Bl B m k f J Jx hk hY W ((hW.cell (p := ⟨Bk, 0, none⟩) hbk).trans hBk) ((hW.block Bl hbl).trans hBl) (hM.same (hW.block B hM.lt)) h0
theorem kpl_t {B Bl : Nat} {X Y Z : World} (h : KpL B Bl X Y) (k : KpL B Bl Y Z) : KpL B Bl X Z := ⟨k.1.trans h.1, k.2.trans h.2⟩
theorem kpl_b {B Bl n₀ : Nat} (hB : B < n₀) (hl : Bl < n₀) (W : World) (l : Nat) (o o' : Obj) (hn : n₀ ≤ l) (h : W.heap[l]? = some o) (_ : o.isCells = false) (_ : o.isWalk = false) : KpL B Bl W (W.putObj l o') :=
  ⟨World.putObj_heap_other (by omega), World.putObj_heap_other (by omega)⟩
end Go.Proofs.Ytehekdahlnpldaa
