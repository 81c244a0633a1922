import Derived.Test.YtehekdahlnpldaaPickI

/-! Layer 7: the reference's Play. -/
namespace Go.Proofs.Ytehekdahlnpldaa
open Go.RowKit
set_option linter.unusedVariables false
set_option linter.unusedSimpArgs false

theorem play_yes {n : Int} {p : List Int} (h : playOk n p) : playV n p = (plyV p, true) := by unfold playV; rw [if_pos h]
theorem play_no {n : Int} {p : List Int} (h : ¬ playOk n p) : playV n p = ([], false) := by unfold playV; rw [if_neg h]
set_option maxHeartbeats 4000000 in
theorem ref_Play_go (A : Option Addr) (p : List Int) (c N : Nat) (w : World) (hA : Lies w w.heap.size A p) (hN : N ≤ 256) (hN0 : 0 < N) (hl : p.length ≤ N) :
    Calls Try.prog 25 #[.int .i64 N, .slice A p.length c] w (GivesP (playV N p) w) := by
  have KR := Lib.hid (ref_row1 N hN hN0)
  have HA := Lib.hid (fun W (h : Below w.heap.size w W) => hA.below h)
  have HNO : Hid (∀ k, k < p.length → ¬ (0 ≤ p.getD k 0 ∧ p.getD k 0 ≤ N - k - 1) → playV N p = ([], false)) := fun k hk hn => play_no (fun h => hn (h.2.2.2 k hk))
  have HYES : Hid ((∀ k : Nat, k < p.length → 0 ≤ p.getD k 0 ∧ p.getD k 0 ≤ N - k - 1) → playV N p = (plyV p, true)) := fun h => play_yes ⟨by omega, by omega, by omega, h⟩
  have HPL := Lib.hid (plyV_up p rfl)
  have HPS : Hid (∀ k, ply p (k + 1) = swp (ply p k) k (k + p.getD k 0)) := fun k => rfl
  generalize playV N p = Z at *
  clear hA
  generalize hM : p.length = M at *
  have HM := Lib.hid hM
  clear hM
  have gN0 : ¬ (N : Int) < 0 := by omega
  have gN1 : ¬ (256 : Int) < (N : Int) := by omega
  have gM : ¬ (N : Int) < (M : Int) := by omega
  go_enter Try.func25, Try.ntmps25
  go_wp2_with fail
  refine (KR.out _).mono ?_
  rintro e1 w1 ⟨g, c1, rfl, gc, gm, hg, ho1, hb1⟩
  have HO1 := Lib.hid ho1
  have HB1 := Lib.hid hb1
  have GM := Lib.hid gm
  clear ho1 hb1 gm
  go_wp2
  go_loopw [7] (fun i wr => ∃ k : Nat, k ≤ M ∧ i = .int .i64 k ∧ Hid (∀ j : Nat, j < k → 0 ≤ p.getD j 0 ∧ p.getD j 0 ≤ N - j - 1) ∧ Hid (OwnI wr g (upF (ply p k) N)) ∧ Hid (Below w.heap.size w wr)) (fun i _ => M - (intOf i).toNat)
  case atStart => exact ⟨0, by omega, rfl, fun j hj => absurd hj (by omega), HO1.out, HB1.out⟩
  case round =>
    obtain ⟨k, hk, rfl, HQ, HO, HB⟩ := hrel
    by_cases hlt : k < M
    · have hlg : (k : Int) < (M : Int) := by omega
      have HLI := Lib.hid (HA.out wr HB.out)
      obtain ⟨ad, rfl, hab, hcell⟩ := HLI.out.at (k := k) (by have := HM.out; omega)
      have HFk := Lib.hid (HNO.out k hlt)
      have HQk : Hid ((0 ≤ p.getD k 0 ∧ p.getD k 0 ≤ N - k - 1) → ∀ j : Nat, j < k + 1 → 0 ≤ p.getD j 0 ∧ p.getD j 0 ≤ N - j - 1) := fun h j hj => by
        rcases Nat.lt_or_ge j k with g | g
        · exact HQ.out j g
        · rw [show j = k from by omega]; exact h
      have HPk := Lib.hid (HPS.out k)
      generalize p.getD k 0 = x at *
      by_cases hx1 : x < 0
      · have hz := HFk.out (by omega)
        go_wp2
        go_ret2
        first | rw [hz] | skip
        exact givesP_nil HB.out
      · by_cases hx2 : (N : Int) - (k : Int) - 1 < x
        · have hz := HFk.out (by omega)
          go_wp2
          go_ret2
          first | rw [hz] | skip
          exact givesP_nil HB.out
        · obtain ⟨q, rfl⟩ : ∃ q : Nat, x = q := ⟨x.toNat, by omega⟩
          have hO := HO.out
          have hrN : k + q < N := by omega
          have hq1 : k + q ≤ 1000 := by omega
          have hkN : k < N := by omega
          have hrg : (k : Int) + (q : Int) < (N : Int) := by omega
          have hpos : (0 : Int) ≤ (k : Int) + (q : Int) := by omega
          have hkg : (k : Int) < (N : Int) := by omega
          have HXI : Hid (0 ≤ (q : Int) ∧ (q : Int) ≤ N - k - 1) := by show _ ∧ _; omega
          have hc1 := hO.cell (k := k + q) (by rw [upF_len]; exact hrN)
          have hc2 := hO.cell (k := k) (by rw [upF_len]; exact hkN)
          have hf1 := hO.free (k + q)
          rw [upF_get _ hrN] at hc1
          rw [upF_get _ hkN] at hc2
          have hO3 := hO.set (k := k + q) (by rw [upF_len]; exact hrN) (ply p k k)
          have hc3 := hO3.cell (k := k) (by rw [List.length_set, upF_len]; exact hkN)
          have hf3 := hO3.free k
          have HSW := Lib.hid (own_swap hO hkN hrN)
          have hcast : ((k + q : Nat) : Int) = (k : Int) + (q : Int) := by omega
          rw [hcast] at hc1 HSW
          generalize (((upF (ply p k) N).set (k + q) (ply p k k)).getD k 0) = u3 at *
          generalize hpl : ply p k = P at *
          clear hO hO3 hpl hcast
          generalize P (k : Int) = y at *
          generalize P ((k : Int) + (q : Int)) = z at *
          have HBB := Lib.hid (fun u v => below_set2 (k := k) (r := k + q) (u := u) (v := v) HB.out hg)
          go_wp2
          go_region
          all_goals
            go_wp2
            refine ⟨⟨k + 1, by omega, by go_num, HQk.out HXI.out, ?_, ?_⟩, by first | (simp [intOf]; done) | (simp [intOf]; omega)⟩
            · show OwnI _ _ _
              rw [HPk.out]
              exact HSW.out
            · exact (HBB.out _ _).drew
    · obtain rfl : k = M := by omega
      have hz := HYES.out HQ.out
      have HZ := Lib.hid hz
      have hli := own_lies HO.out hl hN0
      rw [← HPL.out] at hli
      have HLI := Lib.hid hli
      have HLL : Hid ((plyV p).length = k) := by show _ = _; rw [plyV_len, HM.out]
      have hcg : (k : Int) ≤ (c1 : Int) := by omega
      clear hz hli
      go_wp2
      go_ret2
      rw [HZ.out]
      exact ⟨some ⟨g, 0, none⟩, c1, by rw [show (plyV p, true).1.length = k from HLL.out]; rfl, by simp only; rw [HLL.out]; omega, GM.out, HLI.out, (fun _ e => by cases e; exact hg), HB.out⟩
theorem ref_Play_0 (A : Option Addr) (c : Nat) (w : World) : Calls Try.prog 25 #[.int .i64 0, .slice A 0 c] w (GivesP ([], true) w) := by
  have KR := Lib.hid ref_row0
  go_enter Try.func25, Try.ntmps25
  go_wp2_with fail
  refine (KR.out _).mono ?_
  rintro e1 w1 ⟨rfl, rfl⟩
  go_wp2
  go_loopw [7] (fun i wr => i = .int .i64 0 ∧ wr = w) (fun i _ => 0)
  case atStart => exact ⟨rfl, rfl⟩
  case round =>
    obtain ⟨rfl, rfl⟩ := hrel
    go_wp2
    go_ret2
    exact givesP_nil (Below.refl _ _)
theorem ref_Play (A : Option Addr) (p : List Int) (c : Nat) (n : Int) (w : World) (hA : Lies w w.heap.size A p) :
    Calls Try.prog 25 #[.int .i64 n, .slice A p.length c] w (GivesP (playV n p) w) := by
  by_cases h1 : n < 0
  · rw [play_no (fun h => by have := h.1; omega)]
    clear hA
    generalize p.length = M at *
    go_enter Try.func25, Try.ntmps25
    go_wp2
    go_ret2
    exact givesP_nil (Below.refl _ _)
  · by_cases h2 : 256 < n
    · rw [play_no (fun h => by have := h.2.1; omega)]
      clear hA
      generalize p.length = M at *
      go_enter Try.func25, Try.ntmps25
      go_wp2
      go_ret2
      exact givesP_nil (Below.refl _ _)
    · by_cases h3 : n < (p.length : Int)
      · rw [play_no (fun h => by have := h.2.2.1; omega)]
        clear hA
        generalize p.length = M at *
        go_enter Try.func25, Try.ntmps25
        go_wp2
        go_ret2
        exact givesP_nil (Below.refl _ _)
      · obtain ⟨N, rfl⟩ : ∃ N : Nat, n = N := ⟨n.toNat, by omega⟩
        rcases Nat.eq_zero_or_pos N with e | e
        · subst e
          have hp : p = [] := List.eq_nil_of_length_eq_zero (by omega)
          subst hp
          rw [play_yes ⟨by omega, by omega, by simp, fun k hk => absurd hk (by simp)⟩]
          exact ref_Play_0 A c w
        · exact ref_Play_go A p c N w hA (by omega) e (by omega)
end Go.Proofs.Ytehekdahlnpldaa
