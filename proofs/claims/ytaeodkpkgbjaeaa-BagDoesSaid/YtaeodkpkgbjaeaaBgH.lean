/- Layer 18 (bag): the reference's Drop. -/
import Derived.Test.YtaeodkpkgbjaeaaBgG
namespace Go.Proofs.Ytaeodkpkgbjaeaa
open Go.RowKit
set_option linter.unusedVariables false
set_option linter.unusedSimpArgs false

theorem drop_ref {l : List PQ} (h : UpS l) {s : PQ} (ho : okP s) {i : Nat} (hi : i < l.length) (he : l.getD i pq0 = s) : dropE l s = 0 ∧ dropL l s = l.take i ++ l.drop (i + 1) := by
  have hm : s ∈ l := by rw [← he]; exact getD_memS hi
  refine ⟨by unfold dropE; rw [if_pos ho, if_pos hm], ?_⟩
  have e4 : dropL l s = l.eraseIdx (posK l s - 1) := by unfold dropL; rw [if_pos ⟨ho, hm⟩]
  obtain ⟨p, hp⟩ := (h.mono2 ho).cut
  have epk : posK l s = p := hp.count
  obtain ⟨t1, t2⟩ := h.there ho hp hi he
  have hlast : l.getD (p - 1) pq0 = s := t2 (p - 1) (by omega) (Nat.le_refl _)
  have hpl : p - 1 < l.length := by have := hp.le; omega
  rw [e4, epk, ← List.eraseIdx_eq_take_drop_succ]
  refine (h.del (p - 1)).same (h.del i) ?_
  have q1 := erase_perm l (p - 1) hpl
  have q2 := erase_perm l i hi
  have e5 : l[p - 1] = s := by rw [← hlast]; simp [List.getElem?_eq_getElem hpl]
  have e6 : l[i] = s := by rw [← he]; simp [List.getElem?_eq_getElem hi]
  rw [e5] at q1
  rw [e6] at q2
  exact (q1.trans q2.symm).cons_inv
theorem drop_none {l : List PQ} {s : PQ} (ho : okP s) (h : ∀ j, j < l.length → l.getD j pq0 ≠ s) : dropE l s = 4 ∧ dropL l s = l := by
  have hm : ¬ s ∈ l := fun hm => by
    obtain ⟨i, hi, e⟩ := List.getElem_of_mem hm
    exact h i hi (by simp [List.getElem?_eq_getElem hi, e])
  exact ⟨by unfold dropE; rw [if_pos ho, if_neg hm], by unfold dropL; rw [if_neg (fun h => hm h.2)]⟩
set_option maxRecDepth 100000 in
set_option maxHeartbeats 4000000 in
theorem ref_Drop18 (A : Option Addr) (l : List PQ) (ca : Nat) (p q : Int) (w : World) (hA : LiesS w w.heap.size A l) (hz : A = none → ca = 0) (hUp : UpS l) (hl : l.length ≤ 4096) (hca : l.length ≤ ca) :
    Calls Try.prog 82 #[.slice A l.length ca, .agg #[.int .i64 p, .int .i64 q]] w (RefR A (dropL l (p, q)) (dropE l (p, q)) w) := by
  have J0 := Lib.hid ((Keeps.start w).alloc #[.int .i64 p, .int .i64 q] 24)
  obtain ⟨s0, s1, _, _⟩ := J0.out.head.two
  have K1 := Lib.hid (fun W => ref13_is p q W)
  have HSAME : Hid (∀ x W, Below w.heap.size w W → RefR A l x w (.returned (.tuple #[.slice A l.length ca, .int .i64 x])) W) := fun x W hb => ⟨A, ca, rfl, hca, hz, (hA.below hb).mono hb.size, hb, .inl rfl⟩
  by_cases hok : okP (p, q)
  · have hsc : scoB p q = true := decide_eq_true hok
    rw [hsc] at K1
    have HFOUND : Hid (∀ i, i < l.length → l.getD i pq0 = (p, q) → dropE l (p, q) = 0 ∧ dropL l (p, q) = l.take i ++ l.drop (i + 1)) := fun i hi he => drop_ref hUp hok hi he
    have HNO : Hid ((∀ j, j < l.length → l.getD j pq0 ≠ (p, q)) → dropE l (p, q) = 4 ∧ dropL l (p, q) = l) := fun h => drop_none hok h
    have HA := Lib.hid hA
    obtain ⟨N, hN⟩ : ∃ N, l.length = N := ⟨_, rfl⟩
    rw [hN] at hl hca HFOUND HNO HSAME ⊢
    have HN := Lib.hid hN
    clear hA hUp hN hok hsc
    go_enter Try.func82, Try.ntmps82
    go_wp2_with fail
    refine (K1.out _).mono ?_
    rintro e w1 ⟨rfl, b1⟩
    have J1 := Lib.hid (J0.out.below b1)
    have HB1 := Lib.hid J1.out.2.1
    have HX1 := Lib.hid J1.out.head
    clear b1 s0 s1
    go_wp2
    go_loopw [6] (fun iv wr => ∃ i : Nat, iv = .int .i64 i ∧ i ≤ N ∧ Hid (∀ j, j < i → l.getD j pq0 ≠ (p, q)) ∧ Hid (Below w.heap.size w wr) ∧ Hid (Box wr w.heap.size #[.int .i64 p, .int .i64 q] 24)) (fun iv _ => N - (intOf iv).toNat)
    case atStart => exact ⟨0, rfl, Nat.zero_le _, fun j h => absurd h (by omega), HB1, HX1⟩
    case round =>
    obtain ⟨i, rfl, hi, HLT, HB, HX⟩ := hrel
    by_cases hlt : i < N
    · have hii : (i : Int) < (N : Int) := by omega
      have hli : i < l.length := by rw [HN.out]; exact hlt
      obtain ⟨ad, rfl, hadb, c0, c1⟩ := (HA.out.below HB.out).at hli
      obtain ⟨a, ha⟩ : ∃ a, a = (l.getD i pq0).1 := ⟨_, rfl⟩
      obtain ⟨b, hb⟩ : ∃ b, b = (l.getD i pq0).2 := ⟨_, rfl⟩
      rw [← ha] at c0
      rw [← hb] at c1
      have HAB := Lib.hid (show l.getD i pq0 = (a, b) by rw [ha, hb])
      clear ha hb hadb
      obtain ⟨s0, s1, _, _⟩ := HX.out.two
      have key2 : (a = p ∧ b = q) ∨ (¬ a = p) ∨ (a = p ∧ ¬ b = q) := by omega
      rcases key2 with ⟨rfl, rfl⟩ | h2 | ⟨rfl, h2⟩
      all_goals
        go_wp2
        go_region
      · have HBq := Lib.hid (show Below w.heap.size w wr.drew from HB.out.drew)
        generalize wr.drew = wq at HBq ⊢
        obtain ⟨i1, hi1⟩ : ∃ i1, i1 = i + 1 := ⟨_, rfl⟩
        have hw1 : IntKind.i64.wrap ((i : Int) + 1) = (i1 : Int) := by rw [IntKind.wrap_i64, hi1]; omega
        have HI1 := Lib.hid hi1
        have hi1N : i1 ≤ N := by omega
        have hica : i ≤ ca := by omega
        have hi1ca : i1 ≤ ca := by omega
        have hiNi : (i1 : Int) ≤ (N : Int) := by omega
        obtain ⟨ad2, ead, L2⟩ : ∃ ad2, (if ca = i1 then some ad else some (ad.add (i1 * 2))) = some ad2 ∧ Hid (∀ W, Below w.heap.size w W → LiesS W w.heap.size (some ad2) (l.drop i1)) := by
          by_cases h : ca = i1
          · refine ⟨ad, if_pos h, fun W hb h0 => absurd h0 ?_⟩
            rw [List.length_drop, HN.out]; omega
          · exact ⟨_, if_neg h, fun W hb => (HA.out.below hb).drop i1⟩
        have hal0 : Below wq.heap.size wq (wq.alloc (.cells #[] 24)) := (Below.refl _ _).alloc (Nat.le_refl _) _
        have hal := Lib.hid (show Below w.heap.size w (wq.alloc (.cells #[] 24)).drew from (HBq.out.trans (hal0.mono HBq.out.size)).drew)
        have O0 : Hid (OwnS (wq.alloc (.cells #[] 24)).drew wq.heap.size (.slice (some ⟨wq.heap.size, 0, none⟩) 0 0) []) := own_emptyR wq
        have L0 := Lib.hid ((HA.out.below hal.out).take i)
        have HL0 := Lib.hid (show (l.take i).length = i by rw [List.length_take, HN.out]; omega)
        have HL2 := Lib.hid (show (l.drop i1).length = N - i1 by rw [List.length_drop, HN.out])
        have hWs := Lib.hid (show wq.heap.size ≤ (wq.alloc (.cells #[] 24)).drew.heap.size from hal0.size)
        have hws := Lib.hid (show w.heap.size ≤ wq.heap.size from HBq.out.size)
        clear hi1 hal0 c0 c1 s0 s1
        go_wp2_with fail
        go_cut [4, 5] from 23 to 32 (fun v x wx => x = .int .i64 0 ∧ Hid (OwnS wx wq.heap.size v (l.take i ++ l.drop i1)) ∧ Hid (Below w.heap.size w wx))
        case first =>
          go_wp2_with fail
          go_region_law (first
            | (refine step_of_wp rfl (app_row (B := wq.heap.size) (B2 := w.heap.size) (.tmp 23) (.tmp 26) rfl (.slice (some ⟨wq.heap.size, 0, none⟩) 0 0) [] (l.take i) ad ca i (by simp [Act.eval, Act.put]) (by simp [Act.eval, Act.put]) HL0.out O0.out L0.out hWs.out (by simp only [List.length_nil]; omega) ?_)
               intro v1 W1 g1 g2
               have O1 := Lib.hid (show OwnS W1 wq.heap.size v1 (l.take i) from g1)
               have hB1 := Lib.hid (hal.out.trans (g2.mono hws.out))
               have L21 := Lib.hid (L2.out _ hB1.out)
               have hW1s := Lib.hid (show wq.heap.size ≤ W1.heap.size by have := g2.size; have := hWs.out; omega)
               clear g1 g2)
            | (refine step_of_wp rfl (app_row (B := wq.heap.size) (B2 := w.heap.size) (.tmp 27) (.tmp 31) rfl _ (l.take i) (l.drop i1) ad2 (ca - i1) (N - i1) (by simp [Act.eval, Act.put]) (by simp [Act.eval, Act.put]) HL2.out O1.out L21.out hW1s.out (by rw [HL0.out]; omega) ?_)
               intro v2 W2 g1 g2
               have O2 := Lib.hid g1
               have hB2 := Lib.hid (hB1.out.trans (g2.mono hws.out))
               clear g1 g2))
          all_goals
            go_wp2_with fail
            go_meet
            exact ⟨rfl, O2, hB2⟩
        case rest =>
        obtain ⟨rfl, HO2, HB2⟩ := hcut
        go_wp2
        rw [(HFOUND.out i hlt HAB.out).1, (HFOUND.out i hlt HAB.out).2, ← HI1.out]
        obtain ⟨A3, c3, rfl, hc3, hz3, hl3, hn3⟩ := HO2.out.sl
        refine bodyPost_ret (v := .tuple #[.slice A3 (l.take i ++ l.drop i1).length c3, .int .i64 0]) ?_ rfl ⟨A3, c3, rfl, hc3, hz3, hl3, HB2.out, .inr fun ad h => ⟨Nat.le_trans hws.out (hn3 ad h).1, (hn3 ad h).2⟩⟩
        simp [results, Try.results82, go_sem]
      · go_wp2
        refine ⟨⟨i + 1, by go_num, by omega, fun j hj => ?_, HB.out.drew, HX.out⟩, by simp only [intOf]; omega⟩
        rcases Nat.lt_or_ge j i with g | g
        · exact HLT.out j g
        · obtain rfl : j = i := by omega
          rw [HAB.out]; exact fun e => h2 (congrArg Prod.fst e)
      · go_wp2
        refine ⟨⟨i + 1, by go_num, by omega, fun j hj => ?_, HB.out.drew, HX.out⟩, by simp only [intOf]; omega⟩
        rcases Nat.lt_or_ge j i with g | g
        · exact HLT.out j g
        · obtain rfl : j = i := by omega
          rw [HAB.out]; exact fun e => h2 (congrArg Prod.snd e)
    · obtain rfl : i = N := by omega
      go_wp2
      go_ret2
      rw [(HNO.out HLT.out).1, (HNO.out HLT.out).2]
      exact HSAME.out _ _ HB.out
  · have hsc : scoB p q = false := decide_eq_false hok
    rw [hsc] at K1
    have e1 : dropE l (p, q) = 130 := by unfold dropE; rw [if_neg hok]
    have e2 : dropL l (p, q) = l := by unfold dropL; rw [if_neg (fun h => hok h.1)]
    rw [e1, e2]
    clear hA hUp hok hsc e1 e2 hca hl
    generalize l.length = N at *
    go_enter Try.func82, Try.ntmps82
    go_wp2_with fail
    refine (K1.out _).mono ?_
    rintro e w1 ⟨rfl, b1⟩
    have J1 := Lib.hid (J0.out.below b1)
    clear b1 s0 s1
    go_wp2
    go_ret2
    exact HSAME.out _ _ J1.out.2.1
end Go.Proofs.Ytaeodkpkgbjaeaa
