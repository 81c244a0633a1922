/- Statement HarmFracs: whatever the input is, the Go function returns true and each argument reads as it did. No condition. -/
import Derived.Test.YtihfhdnldpjjdaaRows
import Derived.Test.YtihfhdnldpjjdaaHarmF
import Derived.Test.YtihfhdnldpjjdaaRatG
import Derived.Test.YtihfhdnldpjjdaaBase
import Derived.ProofKit
import Derived.OpenShut
namespace Go.Proofs.Ytihfhdnldpjjdaa.harmFracs
open Go.ChangeShapes Go.WideShapes Go.ChangeAt Go.RowKit
set_option linter.unusedVariables false

theorem own : ownKnob Try.prog.godebug = none := by kernel_rfl
theorem laid : laidOutB Try.prog = true := by kernel_rfl

set_option maxHeartbeats 4000000 in
theorem walk (n : Int) (hn : I64 n) (w : World) :
    Calls Try.prog 6 #[.int .i64 n] w fun e w' => e = .returned (.bool true) ∧ Below w.heap.size w w' := by
  have K1 := Lib.hid (harm_frac n)
  have K2 := Lib.hid (ref5_frac n)
  have K3 := Lib.hid (harm_low n)
  have K4 := Lib.hid (harm_high n)
  have hH := heldN_le n
  generalize heldN n = m at *
  have HO := Lib.hid (fracs_ok m)
  have hs := sum_bds hH
  generalize lowN m = lo at *
  generalize highN m = hi at *
  generalize fracs m = F at *
  obtain ⟨P, Q, E⟩ := F
  by_cases hE : E = 0
  · subst hE
    obtain ⟨hv, h1, h2⟩ := HO.out rfl
    simp only at hv h1 h2
    have hpq := valid_i64 hv
    have hQ : 1 ≤ Q := hv.1.1
    have KA := Lib.hid (fun W => ref3_order lo 1073741824 P Q (by unfold I64; omega) (by unfold I64; omega) hpq.1 hpq.2 W)
    have KB := Lib.hid (fun W => ref3_order P Q hi 1073741824 hpq.1 hpq.2 (by unfold I64; omega) (by unfold I64; omega) W)
    unfold orV at KA KB
    have g1 : orN lo 1073741824 P Q ≤ 0 := by
      unfold orN; rw [if_neg (by omega)]
      unfold cmpI; split <;> (try split) <;> omega
    have g2 : orN P Q hi 1073741824 ≤ 0 := by
      unfold orN; rw [if_neg (by omega)]
      unfold cmpI; split <;> (try split) <;> omega
    generalize orN lo 1073741824 P Q = z1 at *
    generalize orN P Q hi 1073741824 = z2 at *
    generalize orE 1073741824 Q = y1 at *
    generalize orE Q 1073741824 = y2 at *
    clear HO hs h1 h2
    go_enter Try.func6, Try.ntmps6
    go_wp2_with fail
    refine (K1.out _).mono ?_
    rintro e w1 ⟨rfl, b1⟩
    have J1 := ((Keeps.start w).below b1).alloc #[.int .i64 P, .int .i64 Q] 38
    go_wp2_with fail
    refine (K2.out _).mono ?_
    rintro e w2 ⟨rfl, b2⟩
    have J2 := Lib.hid ((J1.below b2).alloc #[.int .i64 P, .int .i64 Q] 38)
    obtain ⟨s0, s1, _, _⟩ := J2.out.head.two
    obtain ⟨r0, r1, _, _⟩ := J2.out.tail.head.two
    have J3 := Lib.hid J2.out.drew
    go_wp2
    obtain ⟨r0, r1, _, _⟩ := J3.out.tail.head.two
    go_region_held3 (fun wr => wr.cell? ⟨w1.heap.size, 0, none⟩ = some (.int .i64 P) ∧ wr.cell? ⟨w1.heap.size, 1, none⟩ = some (.int .i64 Q)) (go_keep)
      (first
        | (go_at_call 13; ((with_reducible refine (K3.out _).mono ?_); rintro e w3 ⟨rfl, b3⟩; have J3 := Lib.hid (J3.out.below b3); obtain ⟨r0, r1, _, _⟩ := J3.out.tail.head.two; clear b3))
        | (go_at_call 31; ((with_reducible refine (KA.out _).mono ?_); rintro e w3 ⟨rfl, b3⟩; have J3 := Lib.hid (J3.out.below b3); obtain ⟨r0, r1, _, _⟩ := J3.out.tail.head.two; clear b3)))
    all_goals
      have J3 := Lib.hid J3.out.drew
      go_wp2
      obtain ⟨r0, r1, _, _⟩ := J3.out.tail.head.two
      go_region_held3 (fun wr => wr.cell? ⟨w1.heap.size, 0, none⟩ = some (.int .i64 P) ∧ wr.cell? ⟨w1.heap.size, 1, none⟩ = some (.int .i64 Q)) (go_keep)
        (first
          | (go_at_call 15; ((with_reducible refine (K4.out _).mono ?_); rintro e w3 ⟨rfl, b3⟩; have J3 := Lib.hid (J3.out.below b3); obtain ⟨r0, r1, _, _⟩ := J3.out.tail.head.two; clear b3))
          | (go_at_call 31; ((with_reducible refine (KB.out _).mono ?_); rintro e w3 ⟨rfl, b3⟩; have J3 := Lib.hid (J3.out.below b3); obtain ⟨r0, r1, _, _⟩ := J3.out.tail.head.two; clear b3)))
      all_goals
        go_wp2_with fail
        refine (lives5 _).mono ?_
        rintro e w4 ⟨rfl, b4⟩
        have J4 := J3.out.below b4
        go_wp2
        go_ret
        exact ⟨rfl, J4.2.1⟩
  · have hne : (E != 0) = true := by simpa using hE
    go_enter Try.func6, Try.ntmps6
    go_wp2_with fail
    refine (K1.out _).mono ?_
    rintro e w1 ⟨rfl, b1⟩
    have J1 := ((Keeps.start w).below b1).alloc #[.int .i64 P, .int .i64 Q] 38
    go_wp2_with fail
    refine (K2.out _).mono ?_
    rintro e w2 ⟨rfl, b2⟩
    have J2 := Lib.hid ((J1.below b2).alloc #[.int .i64 P, .int .i64 Q] 38)
    obtain ⟨s0, s1, _, _⟩ := J2.out.head.two
    obtain ⟨r0, r1, _, _⟩ := J2.out.tail.head.two
    go_wp2_with fail
    refine (lives5 _).mono ?_
    rintro e w3 ⟨rfl, b3⟩
    have J3 := J2.out.below b3
    go_wp2
    go_ret
    exact ⟨rfl, J3.2.1⟩

set_option maxRecDepth 100000 in
theorem lifted (os : Os) (started : os.Started) (H : Type) (enc : TypeId × Value → H) :
    ReturnsInHanded {} Try.checked os 6 .any (Rows.harmFracsSpec.pre6 enc Try.prog Try.f6 Rows.harmFracsRow.domain false) (Rows.harmFracsSpec.post enc Try.prog Try.f6 false true false false) := by
  refine returnsInHanded_of_change (C := Try.checked) own started (by kernel_rfl) Try.func6
    (ChangeSpec.witness6 (enc := enc) (C := Try.checked) false ⟨#[], #[.int .i64 0], []⟩ 8 (by kernel_rfl) (by kernel_rfl) (by kernel_rfl) (by kernel_rfl)) ?_
  intro W base args ds gs before hval0 hW hcnd _
  have hval : ∀ (j : Nat) t v, Try.f6.params[j]? = some t → args[j]? = some v → Value.okWide Try.prog W .any base t v := hval0
  have hW' := hW
  obtain ⟨p, q, hA0, hV, rfl, hfz, hnd⟩ := hW
  obtain ⟨rfl, rfl⟩ := trodVars_none hV
  have hA : DataW.TrodAll enc Try.prog W 0 (fun _ => true) true Try.f6.params.toList args.toList ds p := hA0
  rw [Try.params6] at hA hval
  obtain ⟨v0, vs0, d0, ds0, p0, q0, hargs, rfl, rfl, h0, r0⟩ := trodAll_cons hA
  obtain ⟨rfl, rfl, rfl⟩ := trodAll_nil r0
  obtain rfl : args = #[v0] := by cases args; simp_all
  obtain ⟨a0, rfl, _, _, w0⟩ := open_int Try.underlying3 (hval 0 3 v0 rfl rfl) h0
  refine (walk a0 (i64_of_wf w0) W).mono fun e W' ⟨he, hg⟩ => ?_
  subst he
  exact ⟨_, rfl, law_post laid (by rw [Try.params6]; exact (by decide +kernel)) rfl (by kernel_rfl) Try.underlying4 rfl hW' hg⟩

theorem over : Rows.harmFracsRow.holds Try.pinned (OpenSpec.ofChange Rows.harmFracsSpec) :=
  OpenClaim.holds_of_wide 6 Try.f6 rfl rfl rfl rfl rfl rfl rfl ⟨rfl, rfl, rfl, rfl, rfl⟩ rfl rfl rfl rfl rfl (by kernel_rfl) Try.func6 (by kernel_rfl)
    (of_decide_eq_true (by kernel_rfl)) (by unfold Func.isWrapper; first | (rw [if_pos (by decide +kernel)]; kernel_rfl) | (rw [if_neg (by decide +kernel)]; exact ⟨rfl, rfl⟩))
    (fun os started H enc _ => lifted os started H enc)
theorem proved : Rows.HarmFracsSaid := over
end Go.Proofs.Ytihfhdnldpjjdaa.harmFracs
