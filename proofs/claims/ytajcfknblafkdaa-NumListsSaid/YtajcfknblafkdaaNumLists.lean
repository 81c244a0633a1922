/- Statement NumLists: whatever the input is, the Go function returns true and each argument reads as it did. No condition. -/
import Derived.Test.YtajcfknblafkdaaRows
import Derived.Test.YtajcfknblafkdaaNumV
import Derived.Test.YtajcfknblafkdaaBigS
import Derived.Test.YtajcfknblafkdaaFrame
import Derived.ProofKit
import Derived.OpenShut
namespace Go.Proofs.Ytajcfknblafkdaa.numLists
open Go.ChangeShapes Go.WideShapes Go.ChangeAt Go.RowKit
set_option linter.unusedVariables false

theorem own : ownKnob Try.prog.godebug = none := by kernel_rfl
theorem laid : laidOutB Try.prog = true := by kernel_rfl
theorem cells_int : Try.prog.cellsOf 3 = 1 := by kernel_rfl

/-- one number more onto a list of the call's own -/
theorem app_int {B : Nat} {wr : World} {ops : Array Oper} {rest : List Oper} {o : Oper} {a : Act} {Q : Exit → Act → World → Prop} (hgd : o.guard = none) (s x : Operand)
    (ho : o.op = .call { callee := .builtin .append, args := #[s, x], argTypes := #[29, 29] })
    (v : Value) (l : List Int) (d : Int) (hs : a.eval s = v) (hown : wr.ownsRow B 3 1 v l.length (lits l)) (hx : a.eval x = .slice (some ⟨wr.heap.size, 0, none⟩) 1 1)
    (hB : B ≤ wr.heap.size) (hn : l.length + 1 ≤ 1000000000)
    (h : ∀ v' w', w'.ownsRow B 3 1 v' (l ++ [d]).length (lits (l ++ [d])) → Below B wr w' → wpList Try.prog ops Q rest (a.put o.dst v') w') :
    wpList Try.prog ops Q (o :: rest) a (wr.alloc (.cells #[.int .i64 d] 3)) := by
  obtain ⟨i0, hi, hz0, hz1, hz2⟩ := info_parts info_int
  refine wpList_append_own _ hgd s x 29 ho B 3 i0 (.int .i64 0) 1 8 Try.underlying29 hi hz0 hz1 hz2 rfl (by decide) v l.length (lits l) hs (hown.alloc _) ⟨wr.heap.size, 0, none⟩ 1 1 [.int .i64 d] hx rfl ?_ ?_ ?_ ?_ ?_ ?_
  · intro j u hj
    cases j with
    | zero =>
      simp only [List.getElem?_cons_zero] at hj
      rw [← hj]
      exact cell_of_row _ _ 0 _ _ (0, 0) (heap_alloc_new wr _)
    | succ j => simp at hj
  · intro u hu; rw [List.mem_singleton.1 hu]; rfl
  · unfold maxLen; omega
  · omega
  · simp; omega
  · intro v' w' h1 h2 _
    refine h v' w' ?_ ?_
    · rw [List.length_append, ← lits_snoc]; exact h1
    · refine ((Below.refl _ _).alloc hB _).grown h2 (by simp; omega) fun k hk => ?_
      rcases hown.2 with ⟨rfl, _⟩ | ⟨g, cap, cur, rfl, hg, _⟩
      · simp [Value.ownBlock] at hk
      · simp only [Value.ownBlock, Option.some.injEq] at hk; omega
theorem sumI_reverse (l : List Int) : sumI l.reverse = sumI l := by
  induction l with
  | nil => rfl
  | cons a l ih => rw [List.reverse_cons, sumI_append, ih]; simp only [sumI]; omega
theorem sum_own {B : Nat} {v : Value} {l m : List Int} {w : World} (hown : w.ownsRow B 3 1 v m.length (lits m)) (hm : m = l.reverse) (hl : ∀ x ∈ l, I64 x) (hn : l.length ≤ 1000) (W : World) (hW : Below w.heap.size w W) :
    Calls Try.prog 26 #[v] W fun e w' => e = .returned (fitV (sumI l)) ∧ Below W.heap.size W w' := by
  obtain ⟨A, c, rfl, _, _, hL⟩ := lies_own hown
  subst hm
  have h := num_sum A l.reverse c W (fun x hx => hl x (List.mem_reverse.1 hx)) (by rw [List.length_reverse]; omega) ((hL.below hW).mono hW.size)
  rw [sumI_reverse] at h
  exact h
set_option maxHeartbeats 2000000 in
theorem walk (A : Option Addr) (l : List Int) (c : Nat) (w : World) (hA : Lies w w.heap.size A l) (hl : ∀ x ∈ l, I64 x) (ln : l.length ≤ 9223372036854775807) :
    Calls Try.prog 5 #[.slice A l.length c] w fun e w' => e = .returned (.bool true) ∧ Below w.heap.size w w' := by
  by_cases h1 : 200 < l.length
  · generalize l.length = N at *
    go_enter Try.func5, Try.ntmps5
    go_wp2_with fail
    refine (lives1 _).mono ?_
    rintro e w1 ⟨rfl, b1⟩
    go_wp2
    go_ret
    exact ⟨rfl, b1⟩
  have HA := Lib.hid hA
  have K1 := Lib.hid (fun W (h : Below w.heap.size w W) => num_sum A l c W hl (by omega) ((hA.below h).mono h.size))
  have K2 := Lib.hid (fun W (h : Below w.heap.size w W) => ref_sum A l c W hl (by omega) ((hA.below h).mono h.size))
  have HI := Lib.hid hl
  clear hA hl
  generalize hN : l.length = N at *
  have HN := Lib.hid hN
  clear hN
  go_enter Try.func5, Try.ntmps5
  go_wp2
  go_loopw [3, 4] (fun bv iv wr => ∃ (k : Nat) (v : Int) (m : List Int), k ≤ N ∧ iv = .int .i64 v ∧ Hid (v = k - 1) ∧ Hid (m = (l.drop k).reverse) ∧ wr.ownsRow w.heap.size 3 1 bv m.length (lits m) ∧ Below w.heap.size w wr) (fun _ iv _ => (intOf iv + 1).toNat)
  case atStart => exact ⟨N, _, [], by omega, rfl, rfl, by have h := HN.out; show _ = _; rw [List.drop_eq_nil_of_le (by omega)]; rfl, ⟨by simp [lits], .inl ⟨rfl, rfl⟩⟩, Below.refl _ _⟩
  case round =>
    obtain ⟨k, v, m, hk, rfl, HV, HM, hown, hb⟩ := hrel
    have hbs := hb.size
    have hml : m.length ≤ 200 := by rw [HM.out, List.length_reverse, List.length_drop, HN.out]; omega
    rcases Nat.eq_zero_or_pos k with rfl | hk0
    · obtain rfl : v = -1 := HV.out
      have K3 := Lib.hid (sum_own hown (by rw [HM.out, List.drop_zero]) HI.out (by have := HN.out; omega))
      clear hown HI
      generalize sumI l = S at *
      go_wp2_with fail
      refine (K1.out _ hb).mono ?_
      rintro e w1 ⟨rfl, b1⟩
      go_wp2_with fail
      refine (K3.out _ b1).mono ?_
      rintro e w2 ⟨rfl, b2⟩
      have c1 := hb.trans (b1.mono hb.size)
      have c2 := c1.trans (b2.mono c1.size)
      go_wp2_with fail
      refine (K2.out _ c2).mono ?_
      rintro e w3 ⟨rfl, b3⟩
      have c3 := c2.trans (b3.mono c2.size)
      go_wp2_with fail
      refine (lives1 _).mono ?_
      rintro e w4 ⟨rfl, b4⟩
      go_wp2
      go_ret
      exact ⟨rfl, c3.trans (b4.mono c3.size)⟩
    · obtain ⟨j, rfl⟩ : ∃ j, k = j + 1 := ⟨k - 1, by omega⟩
      obtain rfl : v = (j : Int) := by have := HV.out; omega
      obtain ⟨ad, rfl, hadb, hcell⟩ := lies_at (HA.out.below hb) (k := j) (by have := HN.out; omega)
      have HM' : Hid (m ++ [l.getD j 0] = (l.drop j).reverse) := by
        have hj : j < l.length := by have := HN.out; omega
        show _ = _
        rw [List.drop_eq_getElem_cons hj, List.reverse_cons, ← HM.out]
        simp [List.getD, hj]
      generalize l.getD j 0 = x at *
      go_wp2_with (at_builtin; refine app_int rfl (.tmp 22) (.tmp 27) rfl _ m x rfl hown rfl hbs (by omega) ?_; intro v' w1 hown' hb1)
      exact ⟨⟨j, _, _, by omega, rfl, rfl, HM', hown', hb.trans hb1⟩, by simp [intOf]⟩

set_option maxRecDepth 100000 in
theorem lifted (os : Os) (started : os.Started) (H : Type) (enc : TypeId × Value → H) :
    ReturnsInHanded {} Try.checked os 5 .any (Rows.numListsSpec.pre6 enc Try.prog Try.f5 Rows.numListsRow.domain false) (Rows.numListsSpec.post enc Try.prog Try.f5 false true false false) := by
  refine returnsInHanded_of_change (C := Try.checked) own started (by kernel_rfl) Try.func5
    (ChangeSpec.witness6 (enc := enc) (C := Try.checked) false ⟨#[], #[.slice none 0 0], []⟩ 8 (by kernel_rfl) (by kernel_rfl) (by kernel_rfl) (by kernel_rfl)) ?_
  intro W base args ds gs before hval0 hW hcnd _
  have hval : ∀ (j : Nat) t v, Try.f5.params[j]? = some t → args[j]? = some v → Value.okWide Try.prog W .any base t v := hval0
  have hW' := hW
  obtain ⟨p, q, hA0, hV, rfl, hfz, hnd⟩ := hW
  obtain ⟨rfl, rfl⟩ := trodVars_none hV
  have hA : DataW.TrodAll enc Try.prog W 0 (fun _ => true) true Try.f5.params.toList args.toList ds p := hA0
  rw [Try.params5] at hA hval
  obtain ⟨v0, vs0, d0, ds0, p0, q0, hargs, rfl, rfl, h0, r0⟩ := trodAll_cons hA
  obtain ⟨rfl, rfl, rfl⟩ := trodAll_nil r0
  obtain rfl : args = #[v0] := by cases args; simp_all
  obtain ⟨A, a, c, rfl, L0, I0, M0⟩ := open_list Try.underlying29 Try.underlying3 cells_int (hval 0 29 v0 rfl rfl) h0
  refine (walk A a c W L0 I0 M0).mono fun e W' ⟨he, hg⟩ => ?_
  subst he
  exact ⟨_, rfl, law_post laid (by rw [Try.params5]; exact (by decide +kernel)) rfl (by kernel_rfl) Try.underlying4 rfl hW' hg⟩

theorem over : Rows.numListsRow.holds Try.pinned (OpenSpec.ofChange Rows.numListsSpec) :=
  OpenClaim.holds_of_wide 5 Try.f5 rfl rfl rfl rfl rfl rfl rfl ⟨rfl, rfl, rfl, rfl, rfl⟩ rfl rfl rfl rfl rfl (by kernel_rfl) Try.func5 (by kernel_rfl)
    (of_decide_eq_true (by kernel_rfl)) (by unfold Func.isWrapper; first | (rw [if_pos (by decide +kernel)]; kernel_rfl) | (rw [if_neg (by decide +kernel)]; exact ⟨rfl, rfl⟩))
    (fun os started H enc _ => lifted os started H enc)
theorem proved : Rows.NumListsSaid := over
end Go.Proofs.Ytajcfknblafkdaa.numLists
