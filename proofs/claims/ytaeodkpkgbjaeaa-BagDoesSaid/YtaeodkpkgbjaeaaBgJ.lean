/- Layer 18 (bag): the law's step 'do'. -/
import Derived.Test.YtaeodkpkgbjaeaaBgI
namespace Go.Proofs.Ytaeodkpkgbjaeaa
open Go.RowKit
set_option linter.unusedVariables false
set_option linter.unusedSimpArgs false

/-- what a step leaves -/
def stL (k : Int) (l : List PQ) (s : PQ) : List PQ := if k = 0 then addL l s else dropL l s
set_option maxRecDepth 100000 in
set_option maxHeartbeats 4000000 in
theorem law_do (w0 : World) (g : Nat) (bx : List (Nat × Array Value)) (l : List PQ) (A : Option Addr) (ca : Nat) (k p q : Int) (hp : I64 p) (hq : I64 q) (w : World) (h : LvR w0 g bx l A ca l w) :
    Calls Try.prog 18 #[.pointer (some ⟨g, 0, none⟩), .slice A l.length ca, .agg #[.int .i64 k, .int .i64 p, .int .i64 q]] w fun e w' => ∃ A' ca', e = .returned (.tuple #[.slice A' (stL k l (p, q)).length ca', .bool true]) ∧ LvR w0 g bx (stL k l (p, q)) A' ca' (stL k l (p, q)) w' := by
  have J0 := Lib.hid ((Keeps.start w).alloc #[.int .i64 k, .int .i64 p, .int .i64 q] 32)
  have hx0 := J0.out.head
  have s0 : (w.alloc (.cells #[.int .i64 k, .int .i64 p, .int .i64 q] 32)).cell? ⟨w.heap.size, 0, none⟩ = some (.int .i64 k) := (hx0.cell 0).trans rfl
  have s1 : (w.alloc (.cells #[.int .i64 k, .int .i64 p, .int .i64 q] 32)).cell? ⟨w.heap.size, 1, none⟩ = some (.int .i64 p) := (hx0.cell 1).trans rfl
  have s2 : (w.alloc (.cells #[.int .i64 k, .int .i64 p, .int .i64 q] 32)).cell? ⟨w.heap.size, 2, none⟩ = some (.int .i64 q) := (hx0.cell 2).trans rfl
  have HW := Lib.hid (h.below ((Below.refl _ _).alloc (Nat.le_refl _) (.cells #[.int .i64 k, .int .i64 p, .int .i64 q] 32)))
  have HP : Hid (I64 p ∧ I64 q) := ⟨hp, hq⟩
  obtain ⟨N, hN⟩ : ∃ N, l.length = N := ⟨_, rfl⟩
  rw [hN]
  have HN := Lib.hid hN
  clear h hx0 hp hq hN
  by_cases hk : k = 0
  · subst hk
    have KR : Hid (Calls Try.prog 81 #[.slice A N ca, .agg #[.int .i64 p, .int .i64 q]] (w.alloc (.cells #[.int .i64 0, .int .i64 p, .int .i64 q] 32)) fun e w' => ∃ A' ca', e = .returned (.tuple #[.slice A' (addL l (p, q)).length ca', .int .i64 (addE l (p, q))]) ∧ LvR w0 g bx l A' ca' (addL l (p, q)) w' ∧ (w'.cell? ⟨w.heap.size, 0, none⟩ = some (.int .i64 0) ∧ w'.cell? ⟨w.heap.size, 1, none⟩ = some (.int .i64 p) ∧ w'.cell? ⟨w.heap.size, 2, none⟩ = some (.int .i64 q))) := by
      have h := HW.out
      obtain ⟨hU, hl⟩ := h.ups
      have hlies : LiesS (w.alloc (.cells #[.int .i64 0, .int .i64 p, .int .i64 q] 32)) (w.alloc (.cells #[.int .i64 0, .int .i64 p, .int .i64 q] 32)).heap.size A l := by obtain ⟨O, _, _, _, _, _, h7, _⟩ := h; exact h7
      have hcz : l.length ≤ ca ∧ (A = none → ca = 0) := by obtain ⟨O, _, _, _, _, _, _, h8, h9⟩ := h; exact ⟨h8, h9⟩
      have hc := ref_Add18 A l ca p q _ hlies hcz.2 hU hl hcz.1
      rw [HN.out] at hc
      refine hc.mono ?_
      intro e w' hR
      obtain ⟨A', ca', he, hL⟩ := h.ref hR
      have hb : Below (w.alloc (.cells #[.int .i64 0, .int .i64 p, .int .i64 q] 32)).heap.size (w.alloc (.cells #[.int .i64 0, .int .i64 p, .int .i64 q] 32)) w' := by obtain ⟨_, _, _, _, _, _, hb, _⟩ := hR; exact hb
      have hx := J0.out.head.below hb J0.out.head.lt
      exact ⟨A', ca', he, hL, (hx.cell 0).trans rfl, (hx.cell 1).trans rfl, (hx.cell 2).trans rfl⟩
    have KB : Hid (∀ A' ca' W, LvR w0 g bx l A' ca' (addL l (p, q)) W → Calls Try.prog 25 #[.pointer (some ⟨g, 0, none⟩), .agg #[.int .i64 p, .int .i64 q]] W fun e w' => e = .returned (.int .i64 (addE l (p, q))) ∧ LvR w0 g bx (addL l (p, q)) A' ca' (addL l (p, q)) w') := fun A' ca' W hL => by
      have hL' := hL
      obtain ⟨O, h1, h2, h4, h5, h6, h7, h8, h9⟩ := hL'
      refine (bag_Add O g l p q HP.out.1 HP.out.2 W h1).mono ?_
      rintro e w' hR
      exact LvR.bag2 h1 h2 h4 h5 h6 h7 h8 h9 hR
    have eL : stL 0 l (p, q) = addL l (p, q) := by unfold stL; rw [if_pos rfl]
    rw [eL]
    generalize addE l (p, q) = x at KR KB
    generalize addL l (p, q) = l' at KR KB ⊢
    obtain ⟨N', hN'⟩ : ∃ N', l'.length = N' := ⟨_, rfl⟩
    rw [hN'] at KR ⊢
    clear hN' eL
    go_enter Try.func18, Try.ntmps18
    go_wp2_with fail
    refine KR.out.mono ?_
    clear s0 s1 s2
    rintro e w1 ⟨A', ca', rfl, hL1, s0, s1, s2⟩
    have HL1 := Lib.hid hL1
    clear hL1
    go_wp2_with fail
    refine (KB.out A' ca' _ HL1.out).mono ?_
    clear s0 s1 s2
    rintro e w2 ⟨rfl, hL2⟩
    have HL2 := Lib.hid hL2
    clear hL2
    go_wp2
    go_ret2
    exact ⟨A', ca', rfl, HL2.out⟩
  · have hk2 : ¬ (k : Int) = 0 := hk
    have KR : Hid (Calls Try.prog 82 #[.slice A N ca, .agg #[.int .i64 p, .int .i64 q]] (w.alloc (.cells #[.int .i64 k, .int .i64 p, .int .i64 q] 32)) fun e w' => ∃ A' ca', e = .returned (.tuple #[.slice A' (dropL l (p, q)).length ca', .int .i64 (dropE l (p, q))]) ∧ LvR w0 g bx l A' ca' (dropL l (p, q)) w' ∧ (w'.cell? ⟨w.heap.size, 0, none⟩ = some (.int .i64 k) ∧ w'.cell? ⟨w.heap.size, 1, none⟩ = some (.int .i64 p) ∧ w'.cell? ⟨w.heap.size, 2, none⟩ = some (.int .i64 q))) := by
      have h := HW.out
      obtain ⟨hU, hl⟩ := h.ups
      have hlies : LiesS (w.alloc (.cells #[.int .i64 k, .int .i64 p, .int .i64 q] 32)) (w.alloc (.cells #[.int .i64 k, .int .i64 p, .int .i64 q] 32)).heap.size A l := by obtain ⟨O, _, _, _, _, _, h7, _⟩ := h; exact h7
      have hcz : l.length ≤ ca ∧ (A = none → ca = 0) := by obtain ⟨O, _, _, _, _, _, _, h8, h9⟩ := h; exact ⟨h8, h9⟩
      have hc := ref_Drop18 A l ca p q _ hlies hcz.2 hU hl hcz.1
      rw [HN.out] at hc
      refine hc.mono ?_
      intro e w' hR
      obtain ⟨A', ca', he, hL⟩ := h.ref hR
      have hb : Below (w.alloc (.cells #[.int .i64 k, .int .i64 p, .int .i64 q] 32)).heap.size (w.alloc (.cells #[.int .i64 k, .int .i64 p, .int .i64 q] 32)) w' := by obtain ⟨_, _, _, _, _, _, hb, _⟩ := hR; exact hb
      have hx := J0.out.head.below hb J0.out.head.lt
      exact ⟨A', ca', he, hL, (hx.cell 0).trans rfl, (hx.cell 1).trans rfl, (hx.cell 2).trans rfl⟩
    have KB : Hid (∀ A' ca' W, LvR w0 g bx l A' ca' (dropL l (p, q)) W → Calls Try.prog 27 #[.pointer (some ⟨g, 0, none⟩), .agg #[.int .i64 p, .int .i64 q]] W fun e w' => e = .returned (.int .i64 (dropE l (p, q))) ∧ LvR w0 g bx (dropL l (p, q)) A' ca' (dropL l (p, q)) w') := fun A' ca' W hL => by
      have hL' := hL
      obtain ⟨O, h1, h2, h4, h5, h6, h7, h8, h9⟩ := hL'
      refine (bag_Drop O g l p q HP.out.1 HP.out.2 W h1).mono ?_
      rintro e w' hR
      exact LvR.bag2 h1 h2 h4 h5 h6 h7 h8 h9 hR
    have eL : stL k l (p, q) = dropL l (p, q) := by unfold stL; rw [if_neg hk]
    rw [eL]
    generalize dropE l (p, q) = x at KR KB
    generalize dropL l (p, q) = l' at KR KB ⊢
    obtain ⟨N', hN'⟩ : ∃ N', l'.length = N' := ⟨_, rfl⟩
    rw [hN'] at KR ⊢
    clear hN' eL
    go_enter Try.func18, Try.ntmps18
    go_wp2_with fail
    refine KR.out.mono ?_
    clear s0 s1 s2
    rintro e w1 ⟨A', ca', rfl, hL1, s0, s1, s2⟩
    have HL1 := Lib.hid hL1
    clear hL1
    go_wp2_with fail
    refine (KB.out A' ca' _ HL1.out).mono ?_
    clear s0 s1 s2
    rintro e w2 ⟨rfl, hL2⟩
    have HL2 := Lib.hid hL2
    clear hL2
    go_wp2
    go_ret2
    exact ⟨A', ca', rfl, HL2.out⟩
end Go.Proofs.Ytaeodkpkgbjaeaa
