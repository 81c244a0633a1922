import Derived.Test.YtehekdahlnpldaaPickD
import Derived.Test.YtehekdahlnpldaaPickB
import Derived.Maps.OwnSet

/-! Layer 7: the list whose places are exchanged, kept as a map of what differs: at, set, exchange. -/
namespace Go.Proofs.Ytehekdahlnpldaa
open Go.RowKit Go.Maps
set_option linter.unusedVariables false
set_option linter.unusedSimpArgs false

theorem lawI : Keyed Try.prog 3 := int_keyed Try.underlying3
theorem zeroI (w : World) : (zeroValue 3).run Try.prog w = .ok (.int .i64 0) w := by kernel_rfl
theorem wf_i64 {x : Int} (h : I64 x) : (Lit.int .i64 x).wf = true := WalkArith.wf_i64 (by unfold I64 at h; omega)
theorem litKey (x : Int) : WideAt.IsKeyLit (.int .i64 x) := by first | trivial | exact ⟨⟩ | simp [WideAt.IsKeyLit]
theorem lit_ne {x y : Int} (h : ¬ x = y) : (Lit.int .i64 x) ≠ Lit.int .i64 y := fun e => by cases e; exact h rfl
/-- what a map of differences tells -/
def Vw (D : DataW Unit) (f : Int → Int) : Prop := IsMap D ∧ ∀ x, I64 x → (Maps.has D (.int .i64 x) = true → D.atKey (.int .i64 x) (.lit (.int .i64 0)) = .lit (.int .i64 (f x))) ∧ (Maps.has D (.int .i64 x) = false → f x = x)
/-- block b is a map that tells the row f -/
def IMap (w : World) (b n : Nat) (f : Int → Int) : Prop := ∃ D, w.ownsMap Try.prog 3 (plainElem Try.prog 3) b n D ∧ Vw D f
theorem vw_nil : Vw (.map []) (fun x => x) := ⟨⟨[], rfl⟩, fun x _ => ⟨fun h => by simp [Maps.has] at h, fun _ => rfl⟩⟩
theorem Vw.put {D : DataW Unit} {f : Int → Int} (h : Vw D f) (i n : Int) : Vw (D.put (.int .i64 i) (.lit (.int .i64 n))) (upd f i n) := by
  obtain ⟨hD, hx⟩ := h
  refine ⟨hD.put _ _, fun x hi => ?_⟩
  by_cases e : x = i
  · subst e
    refine ⟨fun _ => ?_, fun g => ?_⟩
    · rw [atKey_put_same hD (litKey x)]; simp [upd]
    · rw [has_put_same hD (litKey x)] at g; cases g
  · have := hx x hi
    rw [has_put_other (lit_ne e), atKey_put_other (lit_ne e)]
    simp only [upd, if_neg e]
    exact this
theorem Vw.del {D : DataW Unit} {f : Int → Int} (h : Vw D f) (i : Int) : Vw (D.del (.int .i64 i)) (upd f i i) := by
  obtain ⟨hD, hx⟩ := h
  refine ⟨hD.del _, fun x hi => ?_⟩
  by_cases e : x = i
  · subst e
    refine ⟨fun g => ?_, fun _ => by simp [upd]⟩
    rw [has_del_same] at g; cases g
  · have := hx x hi
    rw [has_del_other (lit_ne e), atKey_del_other (lit_ne e)]
    simp only [upd, if_neg e]
    exact this
theorem IMap.lt {w : World} {b n : Nat} {f : Int → Int} (h : IMap w b n f) : b < w.heap.size := by
  obtain ⟨D, ⟨es, clock, hb, _⟩, _⟩ := h
  rcases Nat.lt_or_ge b w.heap.size with h | h
  · exact h
  · rw [Array.getElem?_eq_none h] at hb; cases hb
theorem IMap.same {w w' : World} {b n : Nat} {f : Int → Int} (h : IMap w b n f) (e : w'.heap[b]? = w.heap[b]?) : IMap w' b n f := by
  obtain ⟨D, ⟨es, clock, hb, hr⟩, hv⟩ := h
  exact ⟨D, ⟨es, clock, e.trans hb, hr⟩, hv⟩
theorem IMap.below {w w' : World} {b n B : Nat} {f : Int → Int} (h : IMap w b n f) (hb : Below B w w') (hB : b < B) : IMap w' b n f := h.same (hb.block b hB)
theorem IMap.turned {w w' : World} {b b' n : Nat} {f : Int → Int} (h : IMap w b n f) (ht : w.mapTurned w' b') (hne : ¬ b = b') : IMap w' b n f := h.same (ht.grown.block b h.lt (fun e => hne (by cases e; rfl)))
theorem below_turned {B : Nat} {w w' : World} {b : Nat} (h : w.mapTurned w' b) (hB : B ≤ b) : Below B w w' := by
  obtain ⟨es, clock, es', clock', hb, rfl⟩ := h
  refine (Below.refl B w).grown (World.mapTurned.grown ⟨es, clock, es', clock', hb, rfl⟩) ?_ (fun k hk => by cases hk; exact hB)
  have : b < w.heap.size := by
    rcases Nat.lt_or_ge b w.heap.size with h | h
    · exact h
    · rw [Array.getElem?_eq_none h] at hb; cases hb
  omega
theorem Vw.wf {D : DataW Unit} {f : Int → Int} (h : Vw D f) {x c : Int} (hx : I64 x) (hat : D.atKey (.int .i64 x) (.lit (.int .i64 0)) = .lit (.int .i64 c)) (hh : Maps.has D (.int .i64 x) = true) : c = f x := by
  have := ((h.2 x hx).1 hh).symm.trans hat
  injection this with e
  injection e with e1 e2
  exact e2.symm

theorem list_at (b n : Nat) (f : Int → Int) (i : Int) (w : World) (h : IMap w b n f) (hi : I64 i) :
    Calls Try.prog 102 #[.map (some b), .int .i64 i] w fun e w' => e = .returned (.int .i64 (f i)) ∧ w = w' := by
  obtain ⟨D, hown, hv⟩ := h
  have hkey : keyOf Try.prog 3 (.int .i64 i) = some (.int .i64 i) := keyOf_int_mk Try.underlying3 (wf_i64 hi)
  have H1 := Lib.hid (fun c hat hh => hv.wf (c := c) hi hat hh)
  have H0 := Lib.hid ((hv.2 i hi).2)
  generalize hb : Maps.has D (.int .i64 i) = hs at *
  clear hv
  cases hs
  · go_enter Try.func102, Try.ntmps102
    go_wp2_with (at_lookup; refine wpList_lookup_own_ok_int _ rfl _ _ 115 rfl 3 3 .i64 lawI Try.underlying115 Try.underlying3 (zeroI _) b n D rfl hown _ _ rfl hkey ?_; intro c hat hwc; rw [hb])
    go_ret
    exact ⟨by rw [H0.out trivial]; rfl, rfl⟩
  · go_enter Try.func102, Try.ntmps102
    go_wp2_with (at_lookup; refine wpList_lookup_own_ok_int _ rfl _ _ 115 rfl 3 3 .i64 lawI Try.underlying115 Try.underlying3 (zeroI _) b n D rfl hown _ _ rfl hkey ?_; intro c hat hwc; rw [hb])
    go_ret
    exact ⟨by rw [← H1.out c hat trivial]; rfl, rfl⟩

theorem list_set (b n : Nat) (f : Int → Int) (i x : Int) (w : World) (h : IMap w b n f) (hi : I64 i) (hx : I64 x) (hn : n ≤ 100000) :
    Calls Try.prog 127 #[.map (some b), .int .i64 i, .int .i64 x] w fun e w' => e = .returned (.tuple #[]) ∧ IMap w' b (n + 1) (upd f i x) ∧ w.mapTurned w' b := by
  obtain ⟨D, hown, hv⟩ := h
  have hkey : keyOf Try.prog 3 (.int .i64 i) = some (.int .i64 i) := keyOf_int_mk Try.underlying3 (wf_i64 hi)
  by_cases e : x = i
  · subst e
    have H := Lib.hid (hv.del x)
    clear hv
    go_enter Try.func127, Try.ntmps127
    go_wp2_with (at_delete; refine wpList_delete_own _ rfl _ _ 115 3 rfl 3 lawI Try.underlying115 _ b n D rfl hown _ _ rfl hkey ?_; intro w1 hown1 hturn1)

    first | go_end0 | (simp only [Exit.inBlock, Exit.then]; refine bodyPost_ret (results_none rfl _ _ _) rfl ?_) | refine bodyPost_ret (results_none rfl _ _ _) rfl ?_
    exact ⟨rfl, ⟨_, hown1.mono (Nat.le_succ n), H.out⟩, hturn1⟩
  · have H := Lib.hid (hv.put i x)
    clear hv
    have hne : (x == i) = false := by simpa using e
    go_enter Try.func127, Try.ntmps127
    go_wp2_with (at_mapUpdate; refine wpList_mapUpdate_in _ rfl _ _ _ 115 rfl 3 3 lawI Try.underlying115 _ b n D rfl hown (by unfold maxLen; omega) _ _ _ rfl rfl hkey _ [] (plainElem_int Try.underlying3 (wf_i64 hx)) ?_; intro w1 hown1 hturn1)
    first | go_end0 | (simp only [Exit.inBlock, Exit.then]; refine bodyPost_ret (results_none rfl _ _ _) rfl ?_) | refine bodyPost_ret (results_none rfl _ _ _) rfl ?_
    exact ⟨rfl, ⟨_, hown1, H.out⟩, hturn1⟩

theorem list_exchange (b n : Nat) (f : Int → Int) (i j : Int) (w : World) (h : IMap w b n f) (hi : I64 i) (hj : I64 j) (h1 : I64 (f i)) (h2 : I64 (f j)) (hn : n ≤ 90000) :
    Calls Try.prog 99 #[.map (some b), .int .i64 i, .int .i64 j] w fun e w' => e = .returned (.tuple #[]) ∧ IMap w' b (n + 2) (swp f i j) ∧ w.mapTurned w' b := by
  have K1 := Lib.hid (list_at b n f i w h hi)
  have K2 := Lib.hid (list_at b n f j w h hj)
  have K3 := Lib.hid (list_set b n f i (f j) w h hi h2 (by omega))
  have K4 := Lib.hid (fun W (hW : IMap W b (n + 1) (upd f i (f j))) => list_set b (n + 1) _ j (f i) W hW hj h1 (by omega))
  have H := Lib.hid (upd_upd f i j)
  generalize f i = a at *
  generalize f j = c at *
  clear h
  go_enter Try.func99, Try.ntmps99
  go_wp2_with fail
  refine K1.out.mono ?_
  rintro e w1 ⟨rfl, rfl⟩
  go_wp2_with fail
  refine K2.out.mono ?_
  rintro e w1 ⟨rfl, rfl⟩
  go_wp2_with fail
  refine K3.out.mono ?_
  rintro e w1 ⟨rfl, m1, t1⟩
  have T1 := Lib.hid t1
  go_wp2_with fail
  refine (K4.out _ m1).mono ?_
  rintro e w2 ⟨rfl, m2, t2⟩
  have T2 := Lib.hid (T1.out.trans t2)
  go_wp2
  first | go_end0 | (simp only [Exit.inBlock, Exit.then]; refine bodyPost_ret (results_none rfl _ _ _) rfl ?_) | refine bodyPost_ret (results_none rfl _ _ _) rfl ?_
  exact ⟨rfl, by rw [← H.out]; exact m2, T2.out⟩
end Go.Proofs.Ytehekdahlnpldaa
