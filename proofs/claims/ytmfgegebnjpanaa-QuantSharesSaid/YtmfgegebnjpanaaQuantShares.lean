/- Statement QuantShares: whatever the input is, the Go function returns true and each argument reads as it did. No condition. -/
import Derived.Test.YtmfgegebnjpanaaRows
import Derived.Test.YtmfgegebnjpanaaQuaE
import Derived.Test.YtmfgegebnjpanaaVecT
import Derived.Test.YtmfgegebnjpanaaBase
import Derived.ProofKit
import Derived.OpenShut
namespace Go.Proofs.Ytmfgegebnjpanaa.quantShares
open Go.ChangeShapes Go.WideShapes Go.ChangeAt Go.RowKit
set_option linter.unusedVariables false

theorem own : ownKnob Try.prog.godebug = none := by kernel_rfl
theorem laid : laidOutB Try.prog = true := by kernel_rfl

/-- those of the first k that are odder -/
def odK (l : List PQ) (y : PQ) (k : Nat) : Nat := cntD (l.take k) y
theorem odK_succ {l : List PQ} {y : PQ} {k : Nat} (hk : k < l.length) : odK l y (k + 1) = odK l y k + (if odB (l.getD k pq0) y = true then 1 else 0) := countP_step (fun x => odB x y) hk
theorem odK_all (l : List PQ) (y : PQ) : odK l y l.length = cntD l y := by unfold odK; rw [List.take_length]
theorem odK_le (l : List PQ) (y : PQ) (k : Nat) : odK l y k ≤ l.length := by
  unfold odK
  exact Nat.le_trans (cntD_le _ _) (by rw [List.length_take]; omega)
theorem shares_num {n k d p D C : Int} (hd : 2 ≤ d) (h1 : (n - k) * d ≤ p * n) (h2 : p * n < (n - k + 1) * d) (hD : D ≤ n - k) (hC : n - k + 1 ≤ C) : D * d ≤ p * n ∧ p * n < C * d := by
  have a1 : D * d ≤ (n - k) * d := Int.mul_le_mul_of_nonneg_right hD (by omega)
  have a2 : (n - k + 1) * d ≤ C * d := Int.mul_le_mul_of_nonneg_right hC (by omega)
  omega
set_option maxRecDepth 100000 in
set_option maxHeartbeats 8000000 in
theorem walk (A : Option Addr) (l : List PQ) (ca : Nat) {w : World} (hA : LiesS w w.heap.size A l) (hI : okS l) (hlm : l.length ≤ 9223372036854775807) (hca : l.length ≤ ca) (hz : A = none → ca = 0) (p : Int) (hp : I64 p) (d : Int) (hd : I64 d) (_ : World) :
    Calls Try.prog 11 #[.slice A l.length ca, .int .i64 p, .int .i64 d] w fun e w' => e = .returned (.bool true) ∧ Below w.heap.size w w' := by
  by_cases h1 : 100 < l.length
  · have h1' : (100 : Int) < (l.length : Int) := by omega
    have HB := Lib.hid (Below.refl w.heap.size w)
    clear hA hI
    generalize l.length = N at *
    go_enter Try.func11, Try.ntmps11
    go_wp2_with fail
    refine (lives19 _).mono ?_
    rintro e wl ⟨rfl, bl⟩
    have HBL := Lib.hid (HB.out.trans (bl.mono HB.out.size))
    clear bl
    go_wp2
    go_ret
    exact ⟨rfl, HBL.out⟩
  · have h1' : ¬ (100 : Int) < (l.length : Int) := by omega
    obtain ⟨s, hs⟩ : ∃ s, allS l = true → IsSort l s := by
      by_cases ha : allS l = true
      · obtain ⟨s, h⟩ := sort_any l.length l (Nat.le_refl _) (all_okP ha)
        exact ⟨s, fun _ => h⟩
      · exact ⟨[], fun h => absurd h ha⟩
    have K1 := Lib.hid (fun W (h : LiesS W W.heap.size A l) => qua_line A l s ca p d W h hI (by omega) hca hz hs)
    have hA1 := Lib.hid hA
    unfold lnV at K1
    by_cases hx : IdxOk (l.length : Nat) p d
    · by_cases ha : allS l = true
      · obtain ⟨e1, e2⟩ := ln_ok (s := s) hx ha
        have HA := Lib.hid (fun W (h : Below w.heap.size w W) => hA.up h)
        obtain ⟨k1, k2, -, -⟩ := idN_bd hx
        obtain ⟨f1, f2, -, -⟩ := idN_fit hx
        obtain ⟨-, -, -, b4, b5, b6, b7⟩ := idx_prod hx
        obtain ⟨K, hK⟩ : ∃ K : Nat, idN (l.length : Nat) p d = K := ⟨(idN (l.length : Nat) p d).toNat, by omega⟩
        rw [hK] at k1 k2 f1 f2
        have hKn : (idN (l.length : Nat) p d).toNat = K := by omega
        rw [hKn] at e1
        obtain ⟨g1, g2⟩ := sort_shares (hs ha) (k := K) (by omega) (by omega)
        have hlt : K - 1 < s.length := by rw [(hs ha).len]; omega
        have hy : ScoOk (s.getD (K - 1) pq0).1 (s.getD (K - 1) pq0).2 := (all_okP ha) _ ((hs ha).1.mem_iff.1 (by rw [List.getD_eq_getElem?_getD, List.getElem?_eq_getElem hlt]; exact List.getElem_mem _))
        rw [e1, e2] at K1
        have hd2 : 2 ≤ d ∧ d ≤ 1000 := by unfold IdxOk at hx; omega
        obtain ⟨n1, n2⟩ := shares_num (D := ((cntD l (s.getD (K - 1) pq0) : Nat) : Int)) (C := ((cntO l (s.getD (K - 1) pq0) : Nat) : Int)) hd2.1 f1 f2 (by omega) (by omega)
        have hCle := cntO_le l (s.getD (K - 1) pq0)
        have hDle := cntD_le l (s.getD (K - 1) pq0)
        have hDd : 0 ≤ ((cntD l (s.getD (K - 1) pq0) : Nat) : Int) * d := Int.mul_nonneg (by omega) (by omega)
        have hCd : ((cntO l (s.getD (K - 1) pq0) : Nat) : Int) * d ≤ 100 * 1000 := by
          have a1 : ((cntO l (s.getD (K - 1) pq0) : Nat) : Int) * d ≤ 100 * d := Int.mul_le_mul_of_nonneg_right (by omega) (by omega)
          omega
        clear hs e1 e2 f1 f2 hK hKn k1 k2 g1 g2 hlt hx
        generalize hyy : s.getD (K - 1) pq0 = y at *
        clear hyy
        obtain ⟨yp, yq⟩ := y
        simp only at K1 hy
        have hyi : I64 yp ∧ I64 yq := by unfold ScoOk at hy; unfold I64; omega
        have K2 := Lib.hid (fun W (h : LiesS W W.heap.size A l) => qua_count A l ca yp yq W h hI (by omega) hyi.1 hyi.2)
        obtain ⟨-, c1, c2⟩ := sh_ok (l := l) ⟨hy, ha⟩
        unfold cnV at K2
        rw [c1, c2] at K2
        have KO := Lib.hid (fun k (hk2 : k < l.length) W => ref13_odder (l.getD k pq0).1 (l.getD k pq0).2 yp yq (cnK_all ha k hk2) hy W)
        have HST : Hid (∀ k, k < l.length → (0 < oddC (l.getD k pq0).1 (l.getD k pq0).2 yp yq → odK l (yp, yq) (k + 1) = odK l (yp, yq) k + 1) ∧ (oddC (l.getD k pq0).1 (l.getD k pq0).2 yp yq ≤ 0 → odK l (yp, yq) (k + 1) = odK l (yp, yq) k)) := fun k hk2 => by
          rw [odK_succ hk2]
          unfold odB
          constructor
          · intro h; rw [if_pos (decide_eq_true h)]
          · intro h; rw [if_neg (by rw [decide_eq_true_iff]; show ¬ (0 < oddC (l.getD k pq0).1 (l.getD k pq0).2 yp yq); omega)]; rfl
        have HLE := Lib.hid (odK_le l (yp, yq))
        have H0 : Hid ((0 : Int) = ((odK l (yp, yq) 0 : Nat) : Int)) := rfl
        have HAL := Lib.hid (odK_all l (yp, yq))
        clear hA hI hy ha c1 c2 hyi hDle hCle
        generalize hDv : cntD l (yp, yq) = D at *
        clear hDv
        generalize cntO l (yp, yq) = C at *
        generalize hN : l.length = N at *
        have HN := Lib.hid hN
        clear hN
        generalize hX1 : (D : Int) * d = X1 at *
        generalize hX3 : (C : Int) * d = X3 at *
        generalize hX2 : p * (N : Int) = X2 at *
        go_enter Try.func11, Try.ntmps11
        go_wp2_with fail
        refine (K1.out _ hA1.out).mono ?_
        rintro e w1 ⟨rfl, b⟩
        have HB1 := Lib.hid (b.trans (((Below.refl w1.heap.size w1).alloc (Nat.le_refl _) (.cells #[.int .i64 yp, .int .i64 yq] 32)).mono b.size))
        have HL1 := Lib.hid (Box.new w1 #[.int .i64 yp, .int .i64 yq] 32)
        obtain ⟨r0, r1, _, _⟩ := HL1.out.two
        clear b
        go_wp2_with fail
        refine (K2.out _ (HA.out _ HB1.out)).mono ?_
        rintro e w2 ⟨rfl, b⟩
        have HL2 := Lib.hid (HL1.out.below b HL1.out.lt)
        have HB2 := Lib.hid (HB1.out.trans (b.mono HB1.out.size))
        clear b r0 r1 HL1 HB1 K1 K2 HA
        go_wp2
        go_loopw [12, 11] (fun i m wr => ∃ k : Nat, k ≤ N ∧ i = .int .i64 k ∧ m = .int .i64 ((odK l (yp, yq) k : Nat) : Int) ∧ Hid (Box wr w1.heap.size #[.int .i64 yp, .int .i64 yq] 32) ∧ Hid (Below w.heap.size w wr)) (fun i _ _ => N - (intOf i).toNat)
        case atStart => exact ⟨0, by omega, rfl, by rw [← H0.out], HL2, HB2⟩
        case round =>
          obtain ⟨k, hk, rfl, rfl, HL, HB⟩ := hrel
          clear HL2 HB2
          by_cases hlt : k < N
          · have HAr : Hid (LiesS wr w.heap.size A l) := hA1.out.below HB.out
            obtain ⟨ad, rfl, hbk, c0, c1⟩ := HAr.out.at (k := k) (by have := HN.out; omega)
            have HCL : Hid (∀ W, Below w.heap.size w W → W.cell? (ad.add (k * 2)) = some (.int .i64 (l.getD k pq0).1) ∧ W.cell? ⟨(ad.add (k * 2)).block, (ad.add (k * 2)).off + 1, none⟩ = some (.int .i64 (l.getD k pq0).2)) := fun W hb => by
              obtain ⟨ad', eA, _, c0, c1⟩ := (hA1.out.below hb).at (k := k) (by have := HN.out; omega)
              cases eA
              exact ⟨c0, c1⟩
            have hki : (k : Int) < (N : Int) := by omega
            have hle := HLE.out k
            have KO1 := Lib.hid (KO.out k hlt)
            have HS1 := Lib.hid (HST.out k hlt)
            obtain ⟨l0, l1, _, _⟩ := HL.out.two
            clear KO HST HLE HAr HAL
            generalize hcn : odK l (yp, yq) (k + 1) = m' at *
            have HCN := Lib.hid hcn
            clear hcn
            generalize odK l (yp, yq) k = m at *
            generalize (l.getD k pq0).1 = x at *
            generalize (l.getD k pq0).2 = z at *
            generalize oddC x z yp yq = o at *
            have HL := Lib.hid (HL.out.drewN 1)
            have HB := Lib.hid (below_drewN2 HB.out 1)
            by_cases hb : 0 < o
            · have hS := Lib.hid (HS1.out.1 hb)
              clear HS1
              go_wp2
              go_region_held3 (fun W => W.cell? ⟨w1.heap.size, 0, none⟩ = some (.int .i64 yp) ∧ W.cell? ⟨w1.heap.size, 1, none⟩ = some (.int .i64 yq) ∧ W.cell? (ad.add (k * 2)) = some (.int .i64 x) ∧ W.cell? ⟨(ad.add (k * 2)).block, (ad.add (k * 2)).off + 1, none⟩ = some (.int .i64 z)) (first | assumption | go_keep)
                (first | (go_at_call 44; refine (KO1.out _).mono ?_; rintro e w5 ⟨rfl, b5⟩; have HB5 := Lib.hid (HB.out.trans (b5.mono HB.out.size)); have HL5 := Lib.hid (HL.out.below b5 HL.out.lt); obtain ⟨l0, l1, _, _⟩ := HL5.out.two; obtain ⟨c0, c1⟩ := HCL.out _ HB5.out; clear b5))
              all_goals
                go_wp2
                exact ⟨⟨k + 1, by omega, by go_num, by rw [HCN.out, hS.out]; go_num, HL5, HB5⟩, by first | (simp [intOf]; done) | (simp [intOf]; omega)⟩
            · have hS := Lib.hid (HS1.out.2 (by omega))
              have hb2 : o ≤ 0 := by omega
              have hb3 : decide (0 < o) = false := decide_eq_false hb
              clear HS1 hb
              go_wp2
              go_region_held3 (fun W => W.cell? ⟨w1.heap.size, 0, none⟩ = some (.int .i64 yp) ∧ W.cell? ⟨w1.heap.size, 1, none⟩ = some (.int .i64 yq) ∧ W.cell? (ad.add (k * 2)) = some (.int .i64 x) ∧ W.cell? ⟨(ad.add (k * 2)).block, (ad.add (k * 2)).off + 1, none⟩ = some (.int .i64 z)) (first | assumption | go_keep)
                (first | (go_at_call 44; refine (KO1.out _).mono ?_; rintro e w5 ⟨rfl, b5⟩; have HB5 := Lib.hid (HB.out.trans (b5.mono HB.out.size)); have HL5 := Lib.hid (HL.out.below b5 HL.out.lt); obtain ⟨l0, l1, _, _⟩ := HL5.out.two; obtain ⟨c0, c1⟩ := HCL.out _ HB5.out; clear b5))
              all_goals
                go_wp2
                exact ⟨⟨k + 1, by omega, by go_num, by rw [HCN.out, hS.out], HL5, HB5⟩, by first | (simp [intOf]; done) | (simp [intOf]; omega)⟩
          · obtain rfl : k = N := by omega
            clear KO HST HLE
            rw [HAL.out]
            go_wp2_with fail
            refine (lives19 _).mono ?_
            rintro e wl ⟨rfl, bl⟩
            have HBL := Lib.hid (HB.out.trans (bl.mono HB.out.size))
            clear bl
            go_wp2
            go_ret
            exact ⟨rfl, HBL.out⟩
      · have ha : allS l = false := by simpa using ha
        obtain ⟨e1, e2⟩ := ln_no (s := s) hx ha
        rw [e1, e2] at K1
        clear hs hx ha e1 e2 hA hI
        generalize l.length = N at *
        go_enter Try.func11, Try.ntmps11
        go_wp2_with fail
        refine (K1.out _ hA1.out).mono ?_
        rintro e w1 ⟨rfl, b⟩
        have HB := Lib.hid (b.trans (((Below.refl w1.heap.size w1).alloc (Nat.le_refl _) (.cells #[.int .i64 0, .int .i64 0] 32)).mono b.size))
        have HL := Lib.hid (Box.new w1 #[.int .i64 0, .int .i64 0] 32)
        obtain ⟨r0, r1, _, _⟩ := HL.out.two
        clear b
        go_wp2_with fail
        refine (lives19 _).mono ?_
        rintro e wl ⟨rfl, bl⟩
        have HBL := Lib.hid (HB.out.trans (bl.mono HB.out.size))
        clear bl
        go_wp2
        go_ret
        exact ⟨rfl, HBL.out⟩
    · obtain ⟨e1, e2⟩ := ln_arg (s := s) hx
      rw [e1, e2] at K1
      clear hs hx e1 e2 hA hI
      generalize l.length = N at *
      go_enter Try.func11, Try.ntmps11
      go_wp2_with fail
      refine (K1.out _ hA1.out).mono ?_
      rintro e w1 ⟨rfl, b⟩
      have HB := Lib.hid (b.trans (((Below.refl w1.heap.size w1).alloc (Nat.le_refl _) (.cells #[.int .i64 0, .int .i64 0] 32)).mono b.size))
      have HL := Lib.hid (Box.new w1 #[.int .i64 0, .int .i64 0] 32)
      obtain ⟨r0, r1, _, _⟩ := HL.out.two
      clear b
      go_wp2_with fail
      refine (lives19 _).mono ?_
      rintro e wl ⟨rfl, bl⟩
      have HBL := Lib.hid (HB.out.trans (bl.mono HB.out.size))
      clear bl
      go_wp2
      go_ret
      exact ⟨rfl, HBL.out⟩

set_option maxRecDepth 100000 in
theorem lifted (os : Os) (started : os.Started) (H : Type) (enc : TypeId × Value → H) :
    ReturnsInHanded {} Try.checked os 11 .any (Rows.quantSharesSpec.pre6 enc Try.prog Try.f11 Rows.quantSharesRow.domain false) (Rows.quantSharesSpec.post enc Try.prog Try.f11 false true false false) := by
  refine returnsInHanded_of_change (C := Try.checked) own started (by kernel_rfl) Try.func11
    (ChangeSpec.witness6 (enc := enc) (C := Try.checked) false ⟨#[], #[.slice none 0 0, .int .i64 0, .int .i64 0], []⟩ 8 (by kernel_rfl) (by kernel_rfl) (by kernel_rfl) (by kernel_rfl)) ?_
  intro W base args ds gs before hval0 hW hcnd _
  have hval : ∀ (j : Nat) t v, Try.f11.params[j]? = some t → args[j]? = some v → Value.okWide Try.prog W .any base t v := hval0
  have hW' := hW
  obtain ⟨p, q, hA0, hV, rfl, hfz, hnd⟩ := hW
  obtain ⟨rfl, rfl⟩ := trodVars_none hV
  have hA : DataW.TrodAll enc Try.prog W 0 (fun _ => true) true Try.f11.params.toList args.toList ds p := hA0
  rw [Try.params11] at hA hval
  obtain ⟨v0, vs0, d0, ds0, p0, q0, hargs, rfl, rfl, h0, r0⟩ := trodAll_cons hA
  obtain ⟨v1, vs1, d1, ds1, p1, q1, rfl, rfl, rfl, h1, r1⟩ := trodAll_cons r0
  obtain ⟨v2, vs2, d2, ds2, p2, q2, rfl, rfl, rfl, h2, r2⟩ := trodAll_cons r1
  obtain ⟨rfl, rfl, rfl⟩ := trodAll_nil r2
  obtain rfl : args = #[v0, v1, v2] := by cases args; simp_all
  obtain ⟨A0, l0, c0, rfl, L0, I0, M0, N0, Z0⟩ := open_scores Try.underlying56 Try.underlying32 (by kernel_rfl) rfl (by kernel_rfl) (Prod.ext Try.underlying3 Try.underlying3) (hval 0 56 v0 rfl rfl) h0
  obtain ⟨a1, rfl, _, _, w1⟩ := open_int Try.underlying3 (hval 1 3 v1 rfl rfl) h1
  obtain ⟨a2, rfl, _, _, w2⟩ := open_int Try.underlying3 (hval 2 3 v2 rfl rfl) h2
  refine (walk A0 l0 c0 L0 I0 M0 N0 Z0 a1 (i64_of_wf w1) a2 (i64_of_wf w2) W).mono fun e W' ⟨he, hg⟩ => ?_
  subst he
  exact ⟨_, rfl, law_post laid (by rw [Try.params11]; exact (by decide +kernel)) rfl (by kernel_rfl) Try.underlying4 rfl hW' hg⟩

theorem over : Rows.quantSharesRow.holds Try.pinned (OpenSpec.ofChange Rows.quantSharesSpec) :=
  OpenClaim.holds_of_wide 11 Try.f11 rfl rfl rfl rfl rfl rfl rfl ⟨rfl, rfl, rfl, rfl, rfl⟩ rfl rfl rfl rfl rfl (by kernel_rfl) Try.func11 (by kernel_rfl)
    (of_decide_eq_true (by kernel_rfl)) (by unfold Func.isWrapper; first | (rw [if_pos (by decide +kernel)]; kernel_rfl) | (rw [if_neg (by decide +kernel)]; exact ⟨rfl, rfl⟩))
    (fun os started H enc _ => lifted os started H enc)
theorem proved : Rows.QuantSharesSaid := over
end Go.Proofs.Ytmfgegebnjpanaa.quantShares
