/- Statement VecReach: whatever the input is, the Go function returns true and each argument reads as it did. No condition. -/
import Derived.Test.YteljkppcaanniaaRows
import Derived.Test.YteljkppcaanniaaVecO
import Derived.Test.YteljkppcaanniaaVecQ
import Derived.Test.YteljkppcaanniaaBase
import Derived.ProofKit
import Derived.OpenShut
namespace Go.Proofs.Yteljkppcaanniaa.vecReach
open Go.ChangeShapes Go.WideShapes Go.ChangeAt Go.RowKit
set_option linter.unusedVariables false

theorem own : ownKnob Try.prog.godebug = none := by kernel_rfl
theorem laid : laidOutB Try.prog = true := by kernel_rfl

theorem dnR_len (a : List Int) (R : List Row) : (dnR a R).length = R.length := by unfold dnR; simp
theorem reach_in {a : List Int} {R : List Row} (h : reachE a R = true) {j : Nat} (hj : j < R.length) : reachLo a R ≤ dotN a (R.getD j row0).l ∧ dotN a (R.getD j row0).l ≤ reachHi a R ∧ dotC a (R.getD j row0).l = 0 := by
  obtain ⟨h0, hall⟩ := reachE_iff.1 h
  have hd := dnR_get a R hj
  have hl := dnR_len a R
  unfold reachLo reachHi
  rw [if_pos h, if_pos h]
  have h1 := (le_loL (loL ((dnR a R).getD 0 0) (dnR a R).tail) (dnR a R).tail ((dnR a R).getD 0 0)).1 (by omega)
  have h2 := (hiL_le (hiL ((dnR a R).getD 0 0) (dnR a R).tail) (dnR a R).tail ((dnR a R).getD 0 0)).1 (by omega)
  have hm : dotN a (R.getD j row0).l = (dnR a R).getD 0 0 ∨ dotN a (R.getD j row0).l ∈ (dnR a R).tail := by
    rw [← hd]
    cases j with
    | zero => left; rfl
    | succ j =>
      right
      generalize dnR a R = D at *
      cases D with
      | nil => simp at hl; omega
      | cons x D =>
        simp only [List.tail_cons]
        simp only [List.length_cons] at hl
        rw [show (x :: D).getD (j + 1) 0 = D.getD j 0 from by simp]
        exact mem_getD (by omega)
  refine ⟨?_, ?_, ?_⟩
  · rcases hm with e | e
    · rw [e]; exact h1.1
    · exact h1.2 _ e
  · rcases hm with e | e
    · rw [e]; exact h2.1
    · exact h2.2 _ e
  · unfold dotC; rw [hall j hj]; rfl
theorem reach_hit {a : List Int} {R : List Row} (h : reachE a R = true) : (∃ j, j < R.length ∧ dotN a (R.getD j row0).l = reachLo a R) ∧ (∃ j, j < R.length ∧ dotN a (R.getD j row0).l = reachHi a R) := by
  obtain ⟨h0, _⟩ := reachE_iff.1 h
  have hl := dnR_len a R
  have key : ∀ v, (v = (dnR a R).getD 0 0 ∨ v ∈ (dnR a R).tail) → ∃ j, j < R.length ∧ dotN a (R.getD j row0).l = v := by
    intro v hv
    rcases hv with rfl | hv
    · exact ⟨0, h0, (dnR_get a R h0).symm⟩
    · obtain ⟨j, hj, rfl⟩ := List.mem_iff_getElem.1 hv
      rw [List.length_tail] at hj
      refine ⟨j + 1, by omega, ?_⟩
      rw [← dnR_get a R (by omega), List.getElem_tail, List.getD_eq_getElem?_getD, List.getElem?_eq_getElem (by omega)]
      rfl
  unfold reachLo reachHi
  rw [if_pos h, if_pos h]
  exact ⟨key _ (loL_mem _ _), key _ (hiL_mem _ _)⟩
/-- whether one of the first k is v -/
def hitK (a : List Int) (R : List Row) (v : Int) : Nat → Bool
  | 0 => false
  | k + 1 => hitK a R v k || (dotN a (R.getD k row0).l == v)
theorem hitK_of {a : List Int} {R : List Row} {v : Int} {n : Nat} (h : ∃ j, j < n ∧ dotN a (R.getD j row0).l = v) : hitK a R v n = true := by
  induction n with
  | zero => obtain ⟨j, hj, _⟩ := h; omega
  | succ n ih =>
    obtain ⟨j, hj, he⟩ := h
    simp only [hitK, Bool.or_eq_true, beq_iff_eq]
    rcases Nat.lt_or_ge j n with g | g
    · exact .inl (ih ⟨j, g, he⟩)
    · right; rw [show n = j from by omega]; exact he
set_option maxRecDepth 100000 in
set_option maxHeartbeats 8000000 in
theorem walk (A : Option Addr) (a : List Int) (ca : Nat) {w : World} (hA : Lies w w.heap.size A a) (ha : ∀ x ∈ a, I64 x) (hca : a.length ≤ ca) (hma : ca ≤ 9223372036854775807)
    (D : Option Addr) (R : List Row) (cd : Nat) (hD : LiesR w w.heap.size D R) (hR : OkR R) (hcd : R.length ≤ cd) (hmd : cd ≤ 9223372036854775807) (_ : World) :
    Calls Try.prog 9 #[.slice A a.length ca, .slice D R.length cd] w fun e w' => e = .returned (.bool true) ∧ Below w.heap.size w w' := by
  have K0 := Lib.hid (ref_Much D R cd w.heap.size 60 w hD (by omega))
  by_cases h1 : muchV R 60 = true ∨ 20 < a.length
  · clear hA hD ha hR
    generalize hmu : muchV R 60 = mu at *
    generalize a.length = N at *
    generalize R.length = Q at *
    cases mu
    · have g1 : (20 : Int) < (N : Int) := by
        rcases h1 with h | h
        · cases h
        · omega
      clear h1 hmu
      go_enter Try.func9, Try.ntmps9
      go_wp2_with fail
      refine K0.out.mono ?_
      rintro e w0 ⟨rfl, rfl⟩
      go_wp2_with fail
      refine (lives8 _).mono ?_
      rintro e wl ⟨rfl, hl⟩
      go_wp2
      go_ret
      exact ⟨rfl, below_tr (Below.refl _ _) hl⟩
    · clear h1 hmu
      go_enter Try.func9, Try.ntmps9
      go_wp2_with fail
      refine K0.out.mono ?_
      rintro e w0 ⟨rfl, rfl⟩
      go_wp2_with fail
      refine (lives8 _).mono ?_
      rintro e wl ⟨rfl, hl⟩
      go_wp2
      go_ret
      exact ⟨rfl, below_tr (Below.refl _ _) hl⟩
  · have l1 : a.length ≤ 20 := by omega
    have l4 : muchV R 60 = false := by
      cases h : muchV R 60 with
      | false => rfl
      | true => exact absurd (.inl h) h1
    rw [l4] at K0
    have i1 : ((a.length : Nat) : Int) ≤ 9223372036854775807 := by omega
    have i4 : ((R.length : Nat) : Int) ≤ 9223372036854775807 := by omega
    have j1 : ¬ (20 : Int) < (a.length : Int) := by omega
    have LA := fun W (h : Below w.heap.size w W) => (hA.below h).mono h.size
    have LD := fun W (h : Below w.heap.size w W) => (hD.below h).mono h.size
    have K1 := Lib.hid (fun W h => vec_Reach A D a R ca cd W (LA W h) (LD W h) hR i1 i4 hca hcd)
    have K2 := Lib.hid (fun W h => ref_Reach A D a R ca cd W.heap.size W (LA W h) (LD W h) i4)
    have HD := Lib.hid LD
    have HLD := Lib.hid (fun W (h : Below w.heap.size w W) j (hj : j < R.length) => (LD W h).at hj)
    have K3 := Lib.hid (fun W (h : Below w.heap.size w W) j (hj : j < R.length) => vec_Dot A (R.getD j row0).a a (R.getD j row0).l ca (R.getD j row0).c W.heap.size W (LA W h) ((LD W h).2 _ (getD_mem hj)) i1 (by have := hR _ (getD_mem hj); omega) hca (hR _ (getD_mem hj)).1)
    have HIN := Lib.hid (fun (h : reachE a R = true) j (hj : j < R.length) => reach_in h hj)
    have HHIT := Lib.hid (fun (h : reachE a R = true) => reach_hit h)
    have HC : Hid (reachC a R = if reachE a R then 0 else 80) := rfl
    have HLS : Hid (∀ k, hitK a R (reachLo a R) (k + 1) = (hitK a R (reachLo a R) k || (dotN a (R.getD k row0).l == reachLo a R))) := fun k => rfl
    have HHS : Hid (∀ k, hitK a R (reachHi a R) (k + 1) = (hitK a R (reachHi a R) k || (dotN a (R.getD k row0).l == reachHi a R))) := fun k => rfl
    have HLE : Hid (reachE a R = true → hitK a R (reachLo a R) R.length = true ∧ hitK a R (reachHi a R) R.length = true) := fun h => ⟨hitK_of (reach_hit h).1, hitK_of (reach_hit h).2⟩
    have HL0 : Hid (hitK a R (reachLo a R) 0 = false) := rfl
    have HH0 : Hid (hitK a R (reachHi a R) 0 = false) := rfl
    generalize hitK a R (reachLo a R) = fl at *
    generalize hitK a R (reachHi a R) = fh at *
    generalize reachLo a R = lo at *
    generalize reachHi a R = hi at *
    generalize reachC a R = rc at *
    generalize reachE a R = q at *
    clear hA hD ha hR LA LD h1 l4 HHIT
    generalize a.length = N at *
    generalize hQ : R.length = Q at *
    cases q
    · obtain rfl : rc = 80 := HC.out
      clear HIN HLE
      go_enter Try.func9, Try.ntmps9
      go_wp2_with fail
      refine K0.out.mono ?_
      rintro e w0 ⟨rfl, rfl⟩
      go_wp2_with fail
      refine (K1.out _ (Below.refl _ _)).mono ?_
      rintro e w1 ⟨rfl, hw⟩
      have c1 := below_tr (Below.refl _ _) hw
      clear hw
      go_wp2_with fail
      refine (K2.out _ c1).mono ?_
      rintro e w2 ⟨rfl, hw⟩
      have c2 := below_qd c1 hw
      clear hw
      go_wp2
      go_loop [11, 12, 13] (fun x y i => x = .bool false ∧ y = .bool false ∧ i = .int .i64 0) (fun _ _ i => 0)
      case atStart => exact ⟨rfl, rfl, rfl⟩
      case round =>
        obtain ⟨rfl, rfl, rfl⟩ := hrel
        by_cases h0 : 0 < Q
        all_goals
          go_wp2_with fail
          refine (lives8 _).mono ?_
          rintro e wl ⟨rfl, hl⟩
          go_wp2
          go_ret
          exact ⟨rfl, below_tr c2 hl⟩
    · obtain rfl : rc = 0 := HC.out
      have HIN2 := Lib.hid (HIN.out rfl)
      have HLE2 := Lib.hid (HLE.out rfl)
      clear HIN HLE HC
      go_enter Try.func9, Try.ntmps9
      go_wp2_with fail
      refine K0.out.mono ?_
      rintro e w0 ⟨rfl, rfl⟩
      go_wp2_with fail
      refine (K1.out _ (Below.refl _ _)).mono ?_
      rintro e w1 ⟨rfl, hw⟩
      have c1 := below_tr (Below.refl _ _) hw
      clear hw
      go_wp2_with fail
      refine (K2.out _ c1).mono ?_
      rintro e w2 ⟨rfl, hw⟩
      have c2 := below_qd c1 hw
      clear hw
      go_wp2
      go_loopw [11, 12, 13] (fun x y i wr => ∃ k : Nat, k ≤ Q ∧ i = .int .i64 k ∧ x = .bool (fl k) ∧ y = .bool (fh k) ∧ Hid (Below w.heap.size w wr)) (fun _ _ i _ => Q - (intOf i).toNat)
      case atStart => exact ⟨0, by omega, rfl, by rw [HL0.out], by rw [HH0.out], c2⟩
      case round =>
        obtain ⟨k, hk, rfl, rfl, rfl, HB⟩ := hrel
        by_cases hlt : k < Q
        · obtain ⟨ad, hade, _, hcell, _⟩ := HLD.out wr HB.out k hlt
          have KD := Lib.hid (K3.out wr HB.out k hlt)
          obtain ⟨g1, g2, g3⟩ := HIN2.out k hlt
          have hl1 := HLS.out k
          have hh1 := HHS.out k
          rw [g3] at KD
          generalize dotN a (R.getD k row0).l = z at *
          generalize R.getD k row0 = r at *
          obtain ⟨ra, rl, rcc⟩ := r
          simp only at hcell KD
          generalize rl.length = M at *
          subst hade
          have HL1 := Lib.hid hl1
          have HH1 := Lib.hid hh1
          clear hl1 hh1 g3
          generalize fl k = flk at *
          generalize fh k = fhk at *
          have n1 : ¬ z < lo := by omega
          have n2 : ¬ hi < z := by omega
          cases flk <;> cases fhk <;> by_cases q1 : z = lo <;> by_cases q2 : z = hi
          all_goals
            have e1 : Hid ((z == lo) = decide (z = lo)) := by show _ = _; rfl
            have e2 : Hid ((z == hi) = decide (z = hi)) := by show _ = _; rfl
            go_wp2_with fail
            refine KD.out.mono ?_
            rintro e w5 ⟨rfl, hw⟩
            have c5 := below_qd HB.out hw
            clear hw
            go_wp2
            refine ⟨⟨k + 1, by omega, by go_num, ?_, ?_, c5⟩, by first | (simp [intOf]; done) | (simp [intOf]; omega)⟩
            · rw [HL1.out]; first | (simp [q1]; done) | (simp [q2]; done) | (rw [q2]; done) | (simp; rw [q2]; done) | (simp [q1]; omega) | (simp [q2]; omega)
            · rw [HH1.out]; first | (simp [q2]; done) | (simp [q1]; done) | (rw [q1]; done) | (simp; rw [q1]; done) | (simp [q2]; omega) | (simp [q1]; omega)
        · obtain rfl : k = Q := by omega
          obtain ⟨f1, f2⟩ := HLE2.out
          rw [f1, f2]
          go_wp2_with fail
          refine (lives8 _).mono ?_
          rintro e wl ⟨rfl, hl⟩
          go_wp2
          go_ret
          exact ⟨rfl, below_tr HB.out hl⟩

set_option maxRecDepth 100000 in
theorem lifted (os : Os) (started : os.Started) (H : Type) (enc : TypeId × Value → H) :
    ReturnsInHanded {} Try.checked os 9 .any (Rows.vecReachSpec.pre6 enc Try.prog Try.f9 Rows.vecReachRow.domain false) (Rows.vecReachSpec.post enc Try.prog Try.f9 false true false false) := by
  refine returnsInHanded_of_change (C := Try.checked) own started (by kernel_rfl) Try.func9
    (ChangeSpec.witness6 (enc := enc) (C := Try.checked) false ⟨#[], #[.slice none 0 0, .slice none 0 0], []⟩ 8 (by kernel_rfl) (by kernel_rfl) (by kernel_rfl) (by kernel_rfl)) ?_
  intro W base args ds gs before hval0 hW hcnd _
  have hval : ∀ (j : Nat) t v, Try.f9.params[j]? = some t → args[j]? = some v → Value.okWide Try.prog W .any base t v := hval0
  have hW' := hW
  obtain ⟨p, q, hA0, hV, rfl, hfz, hnd⟩ := hW
  obtain ⟨rfl, rfl⟩ := trodVars_none hV
  have hA : DataW.TrodAll enc Try.prog W 0 (fun _ => true) true Try.f9.params.toList args.toList ds p := hA0
  rw [Try.params9] at hA hval
  obtain ⟨v0, vs0, d0, ds0, p0, q0, hargs, rfl, rfl, h0, r0⟩ := trodAll_cons hA
  obtain ⟨v1, vs1, d1, ds1, p1, q1, rfl, rfl, rfl, h1, r1⟩ := trodAll_cons r0
  obtain ⟨rfl, rfl, rfl⟩ := trodAll_nil r1
  obtain rfl : args = #[v0, v1] := by cases args; simp_all
  obtain ⟨A0, l0, c0, rfl, L0, I0, C0, M0⟩ := open_ints8 Try.underlying24 Try.underlying3 cells_i8 (hval 0 24 v0 rfl rfl) h0
  obtain ⟨A1, R1, c1, rfl, L1, I1, C1, M1⟩ := open_rows8 Try.underlying43 Try.underlying24 Try.underlying3 cells_l8 cells_i8 (hval 1 43 v1 rfl rfl) h1
  refine (walk A0 l0 c0 L0 I0 C0 M0 A1 R1 c1 L1 I1 C1 M1 W).mono fun e W' ⟨he, hg⟩ => ?_
  subst he
  exact ⟨_, rfl, law_post laid (by rw [Try.params9]; exact (by decide +kernel)) rfl (by kernel_rfl) Try.underlying4 rfl hW' hg⟩

theorem over : Rows.vecReachRow.holds Try.pinned (OpenSpec.ofChange Rows.vecReachSpec) :=
  OpenClaim.holds_of_wide 9 Try.f9 rfl rfl rfl rfl rfl rfl rfl ⟨rfl, rfl, rfl, rfl, rfl⟩ rfl rfl rfl rfl rfl (by kernel_rfl) Try.func9 (by kernel_rfl)
    (of_decide_eq_true (by kernel_rfl)) (by unfold Func.isWrapper; first | (rw [if_pos (by decide +kernel)]; kernel_rfl) | (rw [if_neg (by decide +kernel)]; exact ⟨rfl, rfl⟩))
    (fun os started H enc _ => lifted os started H enc)
theorem proved : Rows.VecReachSaid := over
end Go.Proofs.Yteljkppcaanniaa.vecReach
