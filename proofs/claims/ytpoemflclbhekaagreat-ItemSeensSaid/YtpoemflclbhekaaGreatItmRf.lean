/- ItmL ItmM ItmN -/
import Derived.Test.YtpoemflclbhekaaGreatItmCd
import Derived.Test.YtpoemflclbhekaaGreatBinRf
import Derived.Deep.RegionWith

/-! Layer 22 (item): requests as bytes, in the reference; form, SameAsk. -/
namespace Go.Proofs.YtpoemflclbhekaaGreat
open Go.RowKit
set_option linter.unusedVariables false
set_option linter.unusedSimpArgs false

end Go.Proofs.YtpoemflclbhekaaGreat

/-! Layer 22 (item): form, SameAsk, stands. -/
namespace Go.Proofs.YtpoemflclbhekaaGreat
open Go.RowKit
set_option linter.unusedVariables false
set_option linter.unusedSimpArgs false

set_option maxRecDepth 100000 in
set_option maxHeartbeats 4000000 in
theorem ref_form (A : Option Addr) (N c k : Nat) (e : Int) (q : Bool) (w : World) : Calls Tryz.prog 36 #[.agg #[.slice A N c, .int .i64 (k : Nat), .int .i64 e], .bool q] w fun r w' => r = .returned (.agg #[.slice A N c, .int .i64 (k : Nat), .int .i64 (chkF q e)]) ∧ Below w.heap.size w w' := by
  obtain ⟨hX, hX0, hW⟩ := box_r w A N c (k : Nat) e
  have KF := Lib.hid (fun W => ref_Fail21 A N c k e 211 W)
  have HX := Lib.hid hX
  have HX0 := Lib.hid hX0
  have HW := Lib.hid hW
  clear hX hX0 hW
  cases q
  · rw [show chkF false e = failE e 211 from rfl]
    generalize failE e 211 = E at *
    go_enter Tryz.func36, Tryz.ntmps36
    go_wp2_with fail
    refine (KF.out _).mono ?_
    rintro r w1 ⟨rfl, h2⟩
    have hb := HX.out.below h2 HX.out.lt
    have HB := Lib.hid (HW.out.trans (h2.mono HW.out.size))
    clear h2
    obtain ⟨x0, x1, x2, y0, y1, y2⟩ := hb.three
    go_wp2
    have s0 := (hb.set 0 (.slice A N c)).cell 0
    have s1 := ((hb.set 0 (.slice A N c)).set 1 (.int .i64 (k : Nat))).cell 1
    have s2 := (((hb.set 0 (.slice A N c)).set 1 (.int .i64 (k : Nat))).set 2 (.int .i64 E)).cell 2
    refine bodyPost_ret (v := .agg #[.slice A N c, .int .i64 (k : Nat), .int .i64 E]) (by simp [results, Tryz.results36, go_sem, s0, s1, s2]) rfl ⟨rfl, ?_⟩
    exact ((HB.out.setCell (by simp) _).setCell (by simp) _).setCell (by simp) _
  · rw [show chkF true e = e from rfl]
    clear KF
    obtain ⟨x0, x1, x2, y0, y1, y2⟩ := HX.out.three
    obtain ⟨z0, z1, z2, -, -, -⟩ := HX0.out.three
    go_enter Tryz.func36, Tryz.ntmps36
    go_wp2
    have s0 := (HX.out.set 0 (.slice A N c)).cell 0
    have s1 := ((HX.out.set 0 (.slice A N c)).set 1 (.int .i64 (k : Nat))).cell 1
    have s2 := (((HX.out.set 0 (.slice A N c)).set 1 (.int .i64 (k : Nat))).set 2 (.int .i64 e)).cell 2
    first
      | (refine bodyPost_ret (v := .agg #[.slice A N c, .int .i64 (k : Nat), .int .i64 e]) (by simp [results, Tryz.results36, go_sem, s0, s1, s2]) rfl ⟨rfl, ?_⟩; exact ((HW.out.setCell (by simp) _).setCell (by simp) _).setCell (by simp) _)
      | (refine bodyPost_ret (v := .agg #[.slice A N c, .int .i64 (k : Nat), .int .i64 e]) (by simp [results, Tryz.results36, go_sem, s0, s1, s2]) rfl ⟨rfl, ?_⟩; exact ((Below.refl w.heap.size w).alloc (Nat.le_refl _) _).alloc (by rw [alloc_size']; omega) _)
set_option maxRecDepth 100000 in
set_option maxHeartbeats 4000000 in
theorem ref_SameAsk (k id n m : Int) (X : List Int) (A A2 : Option Addr) (c c2 : Nat) (w : World) (hA : Lies w w.heap.size A X) (hA2 : Lies w w.heap.size A2 X) (hX : X.length ≤ 9223372036854775807) : Calls Tryz.prog 22 #[.agg #[.int .i64 k, .int .i64 id, .slice A X.length c, .int .i64 n, .int .i64 m], .agg #[.int .i64 k, .int .i64 id, .slice A2 X.length c2, .int .i64 n, .int .i64 m]] w fun e w' => e = .returned (.bool true) ∧ Below w.heap.size w w' := by
  have hb1 := (Below.refl w.heap.size w).alloc (Nat.le_refl _) (.cells #[.int .i64 k, .int .i64 id, .slice A X.length c, .int .i64 n, .int .i64 m] 51)
  have hb2 := hb1.alloc hb1.size (.cells #[.int .i64 k, .int .i64 id, .slice A2 X.length c2, .int .i64 n, .int .i64 m] 51)
  have KS := Lib.hid (ref_same1 A A2 X X c c2 _ _ ((hA.below hb2).mono hb2.size) ((hA2.below hb2).mono hb2.size) (by omega) (by omega))
  rw [decide_eq_true rfl] at KS
  have HB := Lib.hid hb2
  clear hA hA2 hX hb1 hb2
  generalize X.length = N at *
  go_enter Tryz.func22, Tryz.ntmps22
  go_wp2_with fail
  refine (KS.out).mono ?_
  rintro e w1 ⟨rfl, h2⟩
  have HB2 := Lib.hid (HB.out.trans ((belq22 h2).mono HB.out.size))
  clear h2
  go_wp2
  go_ret
  exact ⟨rfl, HB2.out⟩
set_option maxRecDepth 100000 in
set_option maxHeartbeats 4000000 in
theorem law_stands (b : List Int) (A : Option Addr) (N c : Nat) (B g k : Nat) (e : Int) (w : World) (hR : RdAt w B g b k e) : Calls Tryz.prog 12 #[.pointer (some ⟨g, 0, none⟩), .agg #[.slice A N c, .int .i64 (k : Nat), .int .i64 e]] w fun r w' => r = .returned (.bool true) ∧ Below w.heap.size w w' := by
  have hb1 := (Below.refl w.heap.size w).alloc (Nat.le_refl _) (.cells #[.slice A N c, .int .i64 (k : Nat), .int .i64 e] 34)
  have HR := hR.below hb1
  have bx := Box.new w #[.slice A N c, .int .i64 (k : Nat), .int .i64 e] 34
  obtain ⟨v0, v1, v2, -, -, -⟩ := bx.three
  have k1 : ∀ (W : World), RdAt W B g b k e → ∀ n, Calls Tryz.prog 24 #[.pointer (some ⟨g, 0, none⟩)] (W.drewN n) fun e' w' => e' = .returned (.int .i64 (k : Nat)) ∧ ∃ m, w' = (W.drewN n).drewN m := fun W h n => (rd_At (h.drewN n)).mono fun e' w' q => ⟨q.1, 0, q.2.symm⟩
  have k3 : ∀ (W : World), RdAt W B g b k e → ∀ n, Calls Tryz.prog 23 #[.pointer (some ⟨g, 0, none⟩)] (W.drewN n) fun e' w' => e' = .returned (.int .i64 e) ∧ ∃ m, w' = (W.drewN n).drewN m := fun W h n => (rd_Err (h.drewN n)).mono fun e' w' q => ⟨q.1, 0, q.2.symm⟩
  have K1 := Lib.hid (k1 _ HR)
  have K3 := Lib.hid (k3 _ HR)
  clear k1 k3
  have HB := Lib.hid hb1
  clear hR HR hb1 bx
  generalize hw2 : w.alloc (.cells #[.slice A N c, .int .i64 (k : Nat), .int .i64 e] 34) = w2 at *
  have HW2 := Lib.hid hw2
  clear hw2
  go_enter Tryz.func12, Tryz.ntmps12
  go_wp2
  rw [HW2.out]
  go_quiet (first | (go_at_call 24; exact Calls.quiet_of (K1.out _)) | (go_at_call 23; exact Calls.quiet_of (K3.out _)))
  go_wp2
  go_ret
  exact ⟨rfl, below_drewN2 HB.out _⟩
end Go.Proofs.YtpoemflclbhekaaGreat

/-! Layer 22 (item): requests read, in the reference: GetAsk. -/
namespace Go.Proofs.YtpoemflclbhekaaGreat
open Go.RowKit
set_option linter.unusedVariables false
set_option linter.unusedSimpArgs false

theorem rdL_at {b : List Int} (hb : byt b) : ∀ (j k : Nat) (e : Int) (L : List Int), k ≤ b.length → (rdL b j (k, e) L).1.1 ≤ b.length
  | 0, k, e, L, hk => by rw [rdL_end (s := (k, e)) (.inl rfl)]; exact hk
  | j + 1, k, e, L, hk => by
    by_cases he : e = 0
    · subst he
      rw [rdL_step]
      exact rdL_at hb j (rU b k 0).1.1 (rU b k 0).1.2 _ (rU_at hb hk)
    · rw [rdL_end (s := (k, e)) (.inr he)]; exact hk
theorem rL_at {b : List Int} (hb : byt b) {k : Nat} (hk : k ≤ b.length) (e m : Int) : (rL b k e m).1.1 ≤ b.length := by
  by_cases h : (rL b k e m).1.2 = 0
  · have h1 := rdL_at hb (rN b k e m).2 (rN b k e m).1.1 (rN b k e m).1.2 [] (rN_at hb hk e m)
    unfold rL at h ⊢
    split
    · exact hk
    · exact h1
  · rw [(rL_err h).1]; exact hk
theorem box_drewI {w : World} {g : Nat} {cs : Array Value} {t : TypeId} (h : Box w g cs t) : Box w.drew g cs t := h
def GivesRA (A : Option Addr) (N c : Nat) (out : (Nat × Int) × (Nat × Nat × List Int × Nat × Nat)) (w : World) (r : Ending) (w' : World) : Prop :=
  (∃ A2 c2, r = .returned (.tuple #[.agg #[.slice A N c, .int .i64 (out.1.1 : Nat), .int .i64 out.1.2], .agg #[.int .i64 (out.2.1 : Nat), .int .i64 (out.2.2.1 : Nat), .slice A2 out.2.2.2.1.length c2, .int .i64 (out.2.2.2.2.1 : Nat), .int .i64 (out.2.2.2.2.2 : Nat)]]) ∧ Lies w' w'.heap.size A2 out.2.2.2.1) ∧ Below w.heap.size w w'
end Go.Proofs.YtpoemflclbhekaaGreat
