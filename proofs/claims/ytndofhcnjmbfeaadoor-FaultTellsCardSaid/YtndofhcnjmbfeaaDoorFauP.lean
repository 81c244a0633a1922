/- Steps. -/
import Derived.Test.YtndofhcnjmbfeaaDoorFauO
namespace Go.Proofs.YtndofhcnjmbfeaaDoor
open Go.RowKit Go.Extern.Stop Go.Stop Go.Extern
set_option linter.unusedVariables false
set_option linter.unusedSimpArgs false

/-- the steps of a fault's links, the outermost one first -/
def stepsF : FT → List (ByteArray × Int)
  | .code op n _ => [(op, n)]
  | .wrap op n t => (op, n) :: stepsF t
  | .both x _ => stepsF x
def litS (l : List (ByteArray × Int)) : List Value := l.flatMap (fun s => [.string s.1, .int .i64 s.2])
theorem litS_len (l : List (ByteArray × Int)) : (litS l).length = l.length * 2 := by
  induction l with
  | nil => rfl
  | cons a l ih => simp [litS] at ih ⊢; omega
theorem info_step : (Tryd.prog.info? 40).map (fun i => (i.zero, i.size, i.bytes)) = some (some (.agg #[.string ⟨#[]⟩, .int .i64 0]), 2, 24) := by kernel_rfl
abbrev codeZ : Value := .agg #[.string ⟨#[]⟩, .int .i64 0, .int .i64 0]
set_option maxRecDepth 100000 in
theorem as_code_c (op : ByteArray) (n code : Int) (W : World) : (Instr.typeAssert (codedV op n code) 70 55 true).run Tryd.prog W = .ok (.tuple #[.agg #[.string op, .int .i64 n, .int .i64 code], .bool true]) W := rfl
set_option maxRecDepth 100000 in
theorem as_code_w (op : ByteArray) (n : Int) (p : Option Addr) (W : World) : (Instr.typeAssert (wrapV op n p) 70 55 true).run Tryd.prog W = .ok (.tuple #[codeZ, .bool false]) W := rfl
set_option maxRecDepth 100000 in
theorem as_code_b (p q : Option Addr) (W : World) : (Instr.typeAssert (bothV p q) 70 55 true).run Tryd.prog W = .ok (.tuple #[codeZ, .bool false]) W := rfl
theorem steps_len : ∀ t : FT, (stepsF t).length ≤ size t + 1
  | .code _ _ _ => by simp [stepsF]
  | .wrap _ _ t => by have := steps_len t; simp [stepsF, size]; omega
  | .both x y => by have := steps_len x; simp [stepsF, size]; omega
theorem own_blk2 {w : World} {B g : Nat} {v : Value} {n s : Nat} {xs : List Value} {e T : TypeId} {cs : Array Value} (h : w.ownsRow B e s v n xs) (hx : Box w g cs T) (hT : T ≠ e) : v.ownBlock ≠ some g := by
  rcases h.2 with ⟨rfl, _⟩ | ⟨g', cap, cur, rfl, _, hh, _⟩
  · simp [Value.ownBlock]
  · simp only [Value.ownBlock, ne_eq, Option.some.injEq]
    rintro rfl
    unfold Box at hx
    rw [hh] at hx
    simp at hx
    exact hT hx.2.symm
theorem own_below2 {w w' : World} {B s : Nat} {e : TypeId} {v : Value} {n : Nat} {xs : List Value} (h : w.ownsRow B e s v n xs) (hb : Below w.heap.size w w') : w'.ownsRow B e s v n xs := by
  refine h.kept ⟨hb.os, hb.tape, hb.output, hb.size, fun k hk _ => hb.block k hk⟩ (row := none) ?_
  rcases h.2 with ⟨rfl, _⟩ | ⟨g, cap, cur, rfl, _⟩ <;> simp [Value.ownBlock]
/-- one step more onto a row of steps of the call's own -/
theorem app_step {B : Nat} {wr : World} {ops : Array Oper} {rest : List Oper} {o : Oper} {a : Act} {Q : Exit → Act → World → Prop} (hgd : o.guard = none) (s x : Operand)
    (ho : o.op = .call { callee := .builtin .append, args := #[s, x], argTypes := #[36, 36] })
    (v : Value) (l : List (ByteArray × Int)) (op : ByteArray) (n : Int) (hs : a.eval s = v) (hown : wr.ownsRow B 40 2 v l.length (litS l)) (hx : a.eval x = .slice (some ⟨wr.heap.size, 0, none⟩) 1 1)
    (hB : B ≤ wr.heap.size) (hn : l.length ≤ 100000000)
    (h : ∀ v' w', w'.ownsRow B 40 2 v' (l ++ [(op, n)]).length (litS (l ++ [(op, n)])) → Below B wr w' → (∀ (g : Nat) (cs : Array Value) (T : TypeId), T ≠ 40 → Box wr g cs T → Box w' g cs T) → wpList Tryd.prog ops Q rest (a.put o.dst v') w') :
    wpList Tryd.prog ops Q (o :: rest) a (wr.alloc (.cells #[.string op, .int .i64 n] 40)) := by
  obtain ⟨i0, hi, hz0, hz1, hz2⟩ := info_parts info_step
  refine wpList_append_own _ hgd s x 36 ho B 40 i0 _ 2 24 Tryd.underlying36 hi hz0 hz1 hz2 rfl (by decide) v l.length (litS l) hs (hown.alloc _) ⟨wr.heap.size, 0, none⟩ 1 1 [.string op, .int .i64 n] hx rfl ?_ ?_ ?_ ?_ ?_ ?_
  · intro j u hj
    match j, hj with
    | 0, hj =>
      simp only [List.getElem?_cons_zero] at hj
      rw [← hj]
      exact cell_of_row _ _ 0 _ _ (0, 0) (heap_alloc_new wr _)
    | 1, hj =>
      simp at hj
      rw [← hj]
      exact cell_of_row _ _ 1 _ _ (0, 0) (heap_alloc_new wr _)
    | j + 2, hj => simp at hj
  · intro u hu
    simp at hu
    rcases hu with rfl | rfl <;> rfl
  · unfold maxLen; omega
  · omega
  · simp; omega
  · intro v' w' h1 h2 _
    refine h v' w' ?_ ?_ ?_
    · rw [List.length_append]
      unfold litS at h1 ⊢
      rw [List.flatMap_append]; exact h1
    · refine ((Below.refl _ _).alloc hB _).grown h2 (by simp; omega) fun k hk => ?_
      rcases hown.2 with ⟨rfl, _⟩ | ⟨g, cap, cur, rfl, hg, _⟩
      · simp [Value.ownBlock] at hk
      · simp only [Value.ownBlock, Option.some.injEq] at hk; omega
    · intro g cs T hT hb
      have hb2 := hb.alloc (.cells #[.string op, .int .i64 n] 40)
      exact (h2.block g hb2.lt (fun e => own_blk2 (hown.alloc (.cells #[.string op, .int .i64 n] 40)) hb2 hT e.symm)).trans hb2
theorem ft_step : (74 : TypeId) ≠ 40 := by decide
theorem wr_step : (78 : TypeId) ≠ 40 := by decide
noncomputable def szq (w : World) : Value → Nat
  | .pointer none => 0
  | v => szp w v + 1
theorem szq_some (w : World) (b : Nat) : szq w (ptr b 0) = szp w (ptr b 0) + 1 := rfl
set_option maxRecDepth 100000 in
set_option maxHeartbeats 8000000 in
theorem fau_steps (t0 : FT) (b0 : Nat) (w : World) (hf : IsFault w t0 b0) (hsz : size t0 ≤ 1000000) :
    Calls Tryd.prog 12 #[ptr b0 0] w fun e w' => ∃ v, e = .returned v ∧ w'.ownsRow w.heap.size 40 2 v (stepsF t0).length (litS (stepsF t0)) ∧ Below w.heap.size w w' := by
  have hlen0 := steps_len t0
  have c1 := as_code_c
  have c2 := as_code_w
  have c3 := as_code_b
  have d1 := as_wrap_w
  have d2 := as_wrap_b
  have d3 := as_both_b
  go_enter Tryd.func12, Tryd.ntmps12
  go_wp2
  go_loopw [0, 3] (fun f sv wr => ∃ acc, Hid (wr.ownsRow w.heap.size 40 2 sv acc.length (litS acc)) ∧ Hid (Below w.heap.size w wr) ∧ ((f = .pointer none ∧ Hid (acc = stepsF t0)) ∨ ∃ t b, f = ptr b 0 ∧ Hid (IsFault wr t b) ∧ Hid (acc ++ stepsF t = stepsF t0))) (fun f _ wr => szq wr f)
  case atStart => exact ⟨[], ⟨rfl, .inl ⟨rfl, rfl⟩⟩, Below.refl _ _, .inr ⟨t0, b0, rfl, hf, rfl⟩⟩
  case round =>
    obtain ⟨acc, HO, HB, ⟨rfl, HE⟩ | ⟨t, b, rfl, HF, HE⟩⟩ := hrel
    · go_wp2
      go_ret
      have h := HO.out
      rw [HE.out] at h
      exact ⟨_, rfl, h, HB.out⟩
    · obtain ⟨v, hx, hp⟩ := HF.out
      have hc := hx.cell 0
      simp at hc
      have hm := Lib.hid (szp_eq HF.out)
      have hla : acc.length ≤ 2000000 := by
        have h := congrArg List.length HE.out
        rw [List.length_append] at h
        omega
      have HLA := Lib.hid hla
      cases t with
      | code op n c =>
        obtain rfl := hp
        go_wp2_with (at_builtin; refine app_step (wr := wr.alloc (.cells #[.string op, .int .i64 n, .int .i64 c] 55)) rfl (.tmp 17) (.tmp 20) rfl _ acc op n rfl (own_below2 HO.out ((Below.refl _ _).alloc (Nat.le_refl _) _)) (by rw [alloc_size']; rfl) (by have := HB.out.size; rw [alloc_size']; omega) (by have := HLA.out; omega) ?_; intro v' w4 hown4 hb4 hbx4)
        have hba := (Below.refl wr.heap.size wr).alloc (Nat.le_refl _) (.cells #[.string op, .int .i64 n, .int .i64 c] 55)
        exact ⟨⟨acc ++ [(op, n)], hown4, HB.out.trans ((hba.mono HB.out.size).trans hb4), .inl ⟨rfl, HE.out⟩⟩, by rw [szq_some]; exact Nat.succ_pos _⟩
      | wrap op n t' =>
        obtain ⟨b', u, rfl, hx2, hp2⟩ := hp
        go_wp2_with (at_builtin; refine app_step (wr := wr.alloc (.cells #[.string op, .int .i64 n, ptr b' 0] 78)) rfl (.tmp 25) (.tmp 28) rfl _ acc op n rfl (own_below2 HO.out ((Below.refl _ _).alloc (Nat.le_refl _) _)) (by rw [alloc_size']; rfl) (by have := HB.out.size; rw [alloc_size']; omega) (by have := HLA.out; omega) ?_; intro v' w4 hown4 hb4 hbx4; have xw := (hbx4 _ _ _ wr_step (Box.new wr #[.string op, .int .i64 n, ptr b' 0] 78)).cell 2; simp at xw)
        have hba := (Below.refl wr.heap.size wr).alloc (Nat.le_refl _) (.cells #[.string op, .int .i64 n, ptr b' 0] 78)
        have hsm : Same wr w4 := (same_below hba).trans (fun g cs h => hbx4 g cs _ ft_step h)
        have hF2 : IsFault w4 t' b' := IsFault.same ⟨u, hx2, hp2⟩ hsm
        refine ⟨⟨acc ++ [(op, n)], hown4, HB.out.trans ((hba.mono HB.out.size).trans hb4), .inr ⟨t', b', rfl, hF2, (by show _ = _; rw [← HE.out]; simp [stepsF])⟩⟩, ?_⟩
        rw [szq_some, szq_some, szp_eq hF2, hm.out]
        simp only [size]; omega
      | both x y =>
        obtain ⟨p, q, u, u', rfl, ⟨hx2, hp2⟩, _⟩ := hp
        have hba := (Below.refl wr.heap.size wr).alloc (Nat.le_refl _) (.cells #[ptr p 0, ptr q 0] 59)
        have hF2 : IsFault (wr.alloc (.cells #[ptr p 0, ptr q 0] 59)) x p := IsFault.below ⟨u, hx2, hp2⟩ hba
        go_wp2
        refine ⟨⟨acc, own_below2 HO.out hba, HB.out.trans (hba.mono HB.out.size), .inr ⟨x, p, rfl, hF2, HE.out⟩⟩, ?_⟩
        rw [szq_some, szq_some, szp_eq hF2, hm.out]
        simp only [size]; omega
end Go.Proofs.YtndofhcnjmbfeaaDoor
