import Derived.Test.YtehekdahlnpldaaPickF
import Derived.Test.YtehekdahlnpldaaPickX

/-! Layer 7: the reference's Sample and Play. -/
namespace Go.Proofs.Ytehekdahlnpldaa
open Go.RowKit
set_option linter.unusedVariables false
set_option linter.unusedSimpArgs false

theorem bel_q {w w' : World} (h : ∃ m, w' = w.drewN m) : Below w.heap.size w w' := by obtain ⟨m, rfl⟩ := h; exact below_drewN2 (Below.refl _ _) m
/-- both places of a row of the call's own exchanged, in memory -/
theorem own_swap {w : World} {g N k r : Nat} {f : Int → Int} (h : OwnI w g (upF f N)) (hk : k < N) (hr : r < N) :
    OwnI ((w.setCell ⟨g, r, none⟩ (.int .i64 (f k))).setCell ⟨g, k, none⟩ (.int .i64 (f r))) g (upF (swp f k r) N) := by
  have h1 := (h.set (k := r) (by rw [upF_len]; exact hr) (f k)).set (k := k) (by rw [List.length_set, upF_len]; exact hk) (f r)
  rw [upF_swap f hk hr] at h1
  exact h1
theorem below_set2 {B : Nat} {w W : World} {g k r : Nat} {u v : Value} (h : Below B w W) (hg : B ≤ g) : Below B w ((W.setCell ⟨g, r, none⟩ u).setCell ⟨g, k, none⟩ v) :=
  (h.setCell (p := ⟨g, r, none⟩) hg _).setCell (p := ⟨g, k, none⟩) hg _
/-- a row that has places -/
theorem ref_row1 (N : Nat) (hN : N ≤ 256) (h0 : 0 < N) (w : World) : Calls Try.prog 61 #[.int .i64 N] w fun e w' => ∃ g c, e = .returned (.slice (some ⟨g, 0, none⟩) N c) ∧ N ≤ c ∧ c ≤ maxLen ∧ w.heap.size ≤ g ∧ OwnI w' g (upF (fun x => x) N) ∧ Below w.heap.size w w' := by
  refine (ref_row N hN w).mono ?_
  rintro e w' ⟨A, c, rfl, h1, h2, h3, h4⟩
  obtain ⟨g, rfl, h5, h6⟩ := h3 h0
  exact ⟨g, c, rfl, h1, h2, h5, h6, h4⟩
theorem own_lies {w : World} {g N : Nat} {f : Int → Int} (h : OwnI w g (upF f N)) {k : Nat} (hk : k ≤ N) (h0 : 0 < N) : Lies w w.heap.size (some ⟨g, 0, none⟩) (upF f k) := by
  have h2 : Own7 w (some ⟨g, 0, none⟩) N f w → Lies w w.heap.size (some ⟨g, 0, none⟩) (upF f k) := fun h => h.lies hk
  intro h3
  rw [upF_len] at h3
  obtain ⟨ad, e, hb, hc⟩ := h.lies (by rw [upF_len]; omega)
  refine ⟨ad, e, hb, fun j hj => ?_⟩
  rw [upF_len] at hj
  rw [hc j (by rw [upF_len]; omega), upF_get f hj, upF_get f (by omega)]
theorem w7s {k q : Nat} (h : k + q ≤ 1000) : wrap64 ((k : Int) + (q : Int)) = (k : Int) + (q : Int) := by unfold wrap64; omega
theorem w7i {q : Nat} (h : q ≤ 1000) : IntKind.i64.wrap (q : Int) = (q : Int) := by simp only [i64w7]; omega
theorem w7u {n k : Nat} (h : k ≤ n) (hn : n ≤ 1000) : IntKind.u64.wrap ((n : Int) - (k : Int)) = (n : Int) - (k : Int) := by simp only [u64w]; omega
theorem w7d {n k : Nat} (h : k ≤ n) (hn : n ≤ 1000) : wrap64 ((n : Int) - (k : Int)) = (n : Int) - (k : Int) := by unfold wrap64; omega
theorem samp_yes {l : List Int} {a : Int} {N K T : Nat} (hN : N ≤ 256) (hK : K ≤ N) (h0 : 0 ≤ a) (hT1 : 1 ≤ T) (hT : T ≤ 64) :
    sampV l a N K T = if (smp l T N K 0 a []).2.2 = 0 then (plyV (smp l T N K 0 a []).1, (smp l T N K 0 a []).2.1, 0) else ([], 0, (smp l T N K 0 a []).2.2) := by
  unfold sampV
  rw [if_pos (by omega), show ((K : Nat) : Int).toNat = K from by omega]
theorem samp_no {l : List Int} {a n k t : Int} (h : ¬ (0 ≤ n ∧ n ≤ 256 ∧ 0 ≤ k ∧ k ≤ n ∧ 0 ≤ a ∧ 1 ≤ t ∧ t ≤ 64)) : sampV l a n k t = ([], 0, 1) := by unfold sampV; rw [if_neg h]
set_option maxHeartbeats 4000000 in
theorem ref_Sample_go (A : Option Addr) (l : List Int) (c N K T : Nat) (a : Int) (w : World) (hA : LiesU w w.heap.size A l) (hu : ∀ x ∈ l, U64 x) (hl : (l.length : Int) ≤ 9223372036854775807) (hN : N ≤ 256) (hN0 : 0 < N) (hK : K ≤ N) (h0 : 0 ≤ a) (h1 : a ≤ 9223372036854775807) (hT1 : 1 ≤ T) (hT : T ≤ 64) :
    Calls Try.prog 19 #[.slice A l.length c, .int .i64 a, .int .i64 N, .int .i64 K, .int .i64 T] w (GivesC (sampV l a N K T) w) := by
  have KB := Lib.hid (fun W (h : Below w.heap.size w W) j (k : Nat) (g0 : 0 ≤ j) (g1 : j ≤ 9223372036854775807) (hk : k < N) => ref_bound6 A l c j (N - k) T W ((hA.below h).mono h.size) hu hl (by unfold U64; omega) (by unfold I64; omega))
  have HAT := Lib.hid (fun j (k : Nat) => bnd_at (l := l) (a := j) (t := T) (n := N - k) hl)
  have HLT := Lib.hid (fun j (k : Nat) (hk : k < N) => bnd_lt (l := l) (a := j) (t := T) (n := N - k) (by omega))
  have KM := Lib.hid (ref_asked a T)
  rw [show decide (0 ≤ a ∧ (1 : Int) ≤ T ∧ (T : Int) ≤ 64) = true from by simp; omega] at KM
  have KR := Lib.hid (ref_row1 N hN hN0)
  have HV := Lib.hid (samp_yes (l := l) hN hK h0 hT1 hT)
  generalize sampV l a N K T = Z at *
  clear hA hu hl
  generalize l.length = M at *
  have gN : (N : Int) ≤ 256 := by omega
  have gK : (K : Int) ≤ (N : Int) := by omega
  have gN0 : ¬ (N : Int) < 0 := by omega
  have gN1 : ¬ (256 : Int) < (N : Int) := by omega
  have gK0 : ¬ (K : Int) < 0 := by omega
  have gK1 : ¬ (N : Int) < (K : Int) := by omega
  go_enter Try.func19, Try.ntmps19
  go_wp2_with fail
  refine (KM.out _).mono ?_
  rintro e1 w1 ⟨rfl, rfl⟩
  go_wp2_with fail
  refine (KR.out _).mono ?_
  rintro e1 w1 ⟨g, c1, rfl, gc, gm, hg, ho1, hb1⟩
  have HO1 := Lib.hid ho1
  have HB1 := Lib.hid hb1
  have GM := Lib.hid gm
  clear ho1 hb1 gm
  go_wp2
  go_loopw [1, 14] (fun av i wr => ∃ (k : Nat) (j : Int) (acc : List Int), k ≤ K ∧ i = .int .i64 k ∧ av = .int .i64 j ∧ Hid (acc.length = k) ∧ Hid (smp l T N K 0 a [] = smp l T N (K - k) k j acc) ∧ Hid (0 ≤ j ∧ j ≤ 9223372036854775807) ∧ Hid (picksOk N acc) ∧ Hid (OwnI wr g (upF (ply acc k) N)) ∧ Hid (Below w.heap.size w wr)) (fun _ i _ => K - (intOf i).toNat)
  case atStart => exact ⟨0, a, [], by omega, rfl, rfl, rfl, rfl, ⟨h0, h1⟩, fun j hj => absurd hj (by simp), HO1.out, HB1.out⟩
  case round =>
    obtain ⟨k, j, acc, hk, rfl, rfl, HL, HF, HJ, HP, HO, HB⟩ := hrel
    by_cases hlt : k < K
    · have hlg : (k : Int) < (K : Int) := by omega
      have KX := Lib.hid (KB.out wr HB.out j k HJ.out.1 HJ.out.2 (by omega))
      have HS := Lib.hid (fun h => smp_step (l := l) (t := T) (n := N) (k := K - k - 1) (i := k) (a := j) (acc := acc) h)
      have HX := Lib.hid (fun h => smp_fail (l := l) (t := T) (n := N) (k := K - k - 1) (i := k) (a := j) (acc := acc) h)
      have HA2 := Lib.hid (HAT.out j k)
      have hx := HLT.out j k (by omega)
      generalize bnd l j (N - k) T = F at *
      obtain ⟨x, p, e⟩ := F
      simp only at HS HX HA2 hx
      obtain ⟨q, rfl⟩ : ∃ q : Nat, x = q := ⟨x.toNat, by omega⟩
      have hwu : IntKind.u64.wrap ((N : Int) - (k : Int)) = (N : Int) - (k : Int) := w7u (by omega) (by omega)
      have hwn : wrap64 ((N : Int) - (k : Int)) = (N : Int) - (k : Int) := w7d (by omega) (by omega)
      go_wp2_with fail
      refine KX.out.mono ?_
      rintro e1 w2 ⟨rfl, hw⟩
      have b2 := bel_q hw
      have HO2 := Lib.hid (HO.out.below b2 HO.out.lt)
      have HB2 := Lib.hid (HB.out.trans (b2.mono HB.out.size))
      clear b2 hw hwu hwn
      by_cases he : e = 0
      · subst he
        have hO := HO2.out
        have hrN : k + q < N := by omega
        have hq1 : k + q ≤ 1000 := by omega
        have hq2 : q ≤ 1000 := by omega
        have hkN : k < N := by omega
        have hrg : (k : Int) + (q : Int) < (N : Int) := by omega
        have hkg : (k : Int) < (N : Int) := by omega
        have hc1 := hO.cell (k := k + q) (by rw [upF_len]; exact hrN)
        have hc2 := hO.cell (k := k) (by rw [upF_len]; exact hkN)
        have hf1 := hO.free (k + q)
        rw [upF_get _ hrN] at hc1
        rw [upF_get _ hkN] at hc2
        have hO3 := hO.set (k := k + q) (by rw [upF_len]; exact hrN) (ply acc k k)
        have hc3 := hO3.cell (k := k) (by rw [List.length_set, upF_len]; exact hkN)
        have hf3 := hO3.free k
        have HSW := Lib.hid (own_swap hO hkN hrN)
        have HN2 := Lib.hid (ply_snoc HL.out (q : Int))
        have HP2 := Lib.hid (picks_snoc HL.out HP.out (x := (q : Int)) (by omega) (by omega))
        have hcast : ((k + q : Nat) : Int) = (k : Int) + (q : Int) := by omega
        rw [hcast] at hc1 HSW
        generalize (((upF (ply acc k) N).set (k + q) (ply acc k k)).getD k 0) = u3 at *
        generalize hpl : ply acc k = P at *
        clear hO hO3 hpl hcast
        generalize P (k : Int) = y at *
        generalize P ((k : Int) + (q : Int)) = z at *
        have hx1 := w7s (k := k) (q := q) hq1
        have hx2 := w7i (q := q) hq2
        have HBB := Lib.hid (fun u v => below_set2 (k := k) (r := k + q) (u := u) (v := v) HB2.out hg)
        go_wp2
        clear hx1 hx2
        refine ⟨⟨k + 1, p, acc ++ [(q : Int)], by omega, by go_num, rfl, by show _ = _; rw [List.length_append, HL.out]; rfl, ?_, HA2.out trivial HJ.out.1, HP2.out, ?_, HBB.out _ _⟩, by first | (simp [intOf]; done) | (simp [intOf]; omega)⟩
        · show _ = _
          rw [HF.out, show K - k = K - k - 1 + 1 from by omega, HS.out trivial, show K - (k + 1) = K - k - 1 from by omega]
        · show OwnI _ _ _
          rw [HN2.out]
          exact HSW.out
      · have hne : (e != 0) = true := by simpa using he
        go_wp2
        go_ret3
        have hz := HX.out he
        rw [← show K - k = K - k - 1 + 1 from by omega, ← HF.out] at hz
        rw [hz] at HV
        rw [show Z = ([], 0, e) from HV.out.trans (if_neg he)]
        exact givesC_nil HB2.out
    · obtain rfl : k = K := by omega
      have hF := HF.out
      rw [Nat.sub_self, smp] at hF
      rw [hF] at HV
      have hZ : Z = (plyV acc, j, 0) := HV.out.trans (if_pos rfl)
      have hpl := plyV_up acc HL.out
      have hli := own_lies HO.out hK hN0
      have HLL : Hid ((plyV acc).length = k) := by show _ = _; rw [plyV_len, HL.out]
      rw [← hpl] at hli
      have HLI := Lib.hid hli
      have HZ := Lib.hid hZ
      have hcg : (k : Int) ≤ (c1 : Int) := by omega
      clear hF hpl hli hZ
      go_wp2
      go_ret3
      rw [HZ.out]
      exact ⟨some ⟨g, 0, none⟩, c1, by rw [show (plyV acc, j, (0 : Int)).1.length = k from HLL.out]; rfl, by simp only; rw [HLL.out]; omega, GM.out, HLI.out, (fun _ e => by cases e; exact hg), HB.out⟩
end Go.Proofs.Ytehekdahlnpldaa
