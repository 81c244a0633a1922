/- Layer 18 (bag): the reference's Rank and Add. -/
import Derived.Test.YtaeodkpkgbjaeaaBgE
import Derived.Test.YtaeodkpkgbjaeaaQuaM
import Derived.Test.YtaeodkpkgbjaeaaScoQ
namespace Go.Proofs.Ytaeodkpkgbjaeaa
open Go.RowKit
set_option linter.unusedVariables false
set_option linter.unusedSimpArgs false

theorem lessN_step {l : List PQ} {k : Nat} (s : PQ) (h : k < l.length) : lessN (l.take (k + 1)) s = lessN (l.take k) s + (if oddC (l.getD k pq0).1 (l.getD k pq0).2 s.1 s.2 < 0 then 1 else 0) := by
  have := countP_step (fun x => decide (oddC x.1 x.2 s.1 s.2 < 0)) h
  simpa [lessN] using this
theorem sameN_step {l : List PQ} {k : Nat} (s : PQ) (h : k < l.length) : sameN (l.take (k + 1)) s = sameN (l.take k) s + (if l.getD k pq0 = s then 1 else 0) := by
  have := countP_step (fun x => decide (x = s)) h
  simpa [sameN] using this
set_option maxRecDepth 100000 in
set_option maxHeartbeats 4000000 in
theorem ref_Rank18 (A : Option Addr) (l : List PQ) (ca : Nat) (p q : Int) (w : World) (hA : LiesS w w.heap.size A l) (hU : ∀ x ∈ l, okP x) (hl : l.length ≤ 100000) (hca : l.length ≤ ca) :
    Calls Try.prog 23 #[.slice A l.length ca, .agg #[.int .i64 p, .int .i64 q]] w fun e w' => e = .returned (.tuple #[.int .i64 (rkL l (p, q) : Nat), .int .i64 (rkS l (p, q) : Nat), .int .i64 (rkE (p, q))]) ∧ Below w.heap.size w w' := by
  have J0 := Lib.hid ((Keeps.start w).alloc #[.int .i64 p, .int .i64 q] 24)
  obtain ⟨s0, s1, _, _⟩ := J0.out.head.two
  have K1 := Lib.hid (fun W => ref13_is p q W)
  by_cases hok : okP (p, q)
  · have hsc : scoB p q = true := decide_eq_true hok
    rw [hsc] at K1
    unfold rkL rkS rkE
    rw [if_pos hok, if_pos hok, if_pos hok]
    have HOK : Hid (okP (p, q)) := hok
    have HA := Lib.hid hA
    have HU := Lib.hid hU
    obtain ⟨N, hN⟩ : ∃ N, l.length = N := ⟨_, rfl⟩
    rw [hN] at hl hca ⊢
    have HN := Lib.hid hN
    have HT : Hid (l.take N = l) := by show _ = _; rw [← hN, List.take_length]
    clear hA hU hN hok hsc
    go_enter Try.func23, Try.ntmps23
    go_wp2_with fail
    refine (K1.out _).mono ?_
    rintro e w1 ⟨rfl, b1⟩
    have J1 := Lib.hid (J0.out.below b1)
    have HB1 := Lib.hid J1.out.2.1
    have HX1 := Lib.hid J1.out.head
    clear b1 s0 s1
    go_wp2
    go_loopw [7, 8, 9] (fun av bv iv wr => ∃ i n1 n2 : Nat, iv = .int .i64 i ∧ av = .int .i64 n1 ∧ bv = .int .i64 n2 ∧ i ≤ N ∧ Hid (n1 = lessN (l.take i) (p, q) ∧ n2 = sameN (l.take i) (p, q) ∧ n1 ≤ i ∧ n2 ≤ i) ∧ Hid (Below w.heap.size w wr) ∧ Hid (Box wr w.heap.size #[.int .i64 p, .int .i64 q] 24)) (fun _ _ iv _ => N - (intOf iv).toNat)
    case atStart => exact ⟨0, 0, 0, rfl, rfl, rfl, Nat.zero_le _, ⟨rfl, rfl, Nat.le_refl _, Nat.le_refl _⟩, HB1, HX1⟩
    case round =>
    obtain ⟨i, n1, n2, rfl, rfl, rfl, hi, HE, HB, HX⟩ := hrel
    by_cases hlt : i < N
    · have hii : (i : Int) < (N : Int) := by omega
      have hli : i < l.length := by rw [HN.out]; exact hlt
      obtain ⟨ad, rfl, hadb, c0, c1⟩ := (HA.out.below HB.out).at hli
      have HCL : Hid (∀ W, Below w.heap.size w W → W.cell? (ad.add (i * 2)) = some (.int .i64 (l.getD i pq0).1) ∧ W.cell? ⟨(ad.add (i * 2)).block, (ad.add (i * 2)).off + 1, none⟩ = some (.int .i64 (l.getD i pq0).2)) := fun W hb => by
        obtain ⟨ad', eA, _, c0, c1⟩ := (HA.out.below hb).at hli
        cases eA
        exact ⟨c0, c1⟩
      have ho1 := HU.out _ (getD_memS hli)
      have KO := Lib.hid (fun W => ref13_odder (l.getD i pq0).1 (l.getD i pq0).2 p q ho1 HOK.out W)
      have HS1 := Lib.hid (lessN_step (p, q) hli)
      have HS2 := Lib.hid (show sameN (l.take (i + 1)) (p, q) = sameN (l.take i) (p, q) + (if ((l.getD i pq0).1, (l.getD i pq0).2) = (p, q) then 1 else 0) from sameN_step (p, q) hli)
      have hb1 := HE.out.2.2.1
      have hb2 := HE.out.2.2.2
      have hw1 : IntKind.i64.wrap ((n1 : Int) + 1) = ((n1 + 1 : Nat) : Int) := by rw [IntKind.wrap_i64]; omega
      have hw2 : IntKind.i64.wrap ((n2 : Int) + 1) = ((n2 + 1 : Nat) : Int) := by rw [IntKind.wrap_i64]; omega
      clear hadb ho1 hb1 hb2
      generalize (l.getD i pq0).1 = a at *
      generalize (l.getD i pq0).2 = b at *
      generalize oddC a b p q = o at *
      have KO2 : Hid (∀ W, Below wr.heap.size wr W → Calls Try.prog 28 #[.agg #[.int .i64 a, .int .i64 b], .agg #[.int .i64 p, .int .i64 q]] W fun e w' => e = .returned (.int .i64 o) ∧ ((w'.cell? (ad.add (i * 2)) = some (.int .i64 a) ∧ w'.cell? ⟨(ad.add (i * 2)).block, (ad.add (i * 2)).off + 1, none⟩ = some (.int .i64 b)) ∧ (w'.cell? ⟨w.heap.size, 0, none⟩ = some (.int .i64 p) ∧ w'.cell? ⟨w.heap.size, 1, none⟩ = some (.int .i64 q))) ∧ Hid (Below w.heap.size w w' ∧ Box w' w.heap.size #[.int .i64 p, .int .i64 q] 24)) := fun W hW => by
        refine (KO.out W).mono ?_
        rintro e w' ⟨rfl, hb⟩
        have h2 := hW.trans (hb.mono hW.size)
        have hbb := HB.out.trans (h2.mono HB.out.size)
        have hx := HX.out.below h2 HX.out.lt
        exact ⟨rfl, ⟨HCL.out w' hbb, (hx.cell 0).trans rfl, (hx.cell 1).trans rfl⟩, hbb, hx⟩
      obtain ⟨s0, s1, _, _⟩ := HX.out.two
      have key : (o < 0 ∨ ¬ o < 0) := by omega
      have key2 : (a = p ∧ b = q) ∨ (¬ a = p) ∨ (a = p ∧ ¬ b = q) := by omega
      have HV : Hid (∀ x y : Nat, (x = n1 + (if o < 0 then 1 else 0)) → (y = n2 + (if (a, b) = (p, q) then 1 else 0)) → x = lessN (l.take (i + 1)) (p, q) ∧ y = sameN (l.take (i + 1)) (p, q) ∧ x ≤ i + 1 ∧ y ≤ i + 1) := fun x y hx hy => by
        obtain ⟨e1, e2, e3, e4⟩ := HE.out
        have h1 := HS1.out
        have h2 := HS2.out
        refine ⟨by rw [hx, e1]; exact h1.symm, by rw [hy, e2]; exact h2.symm, ?_, ?_⟩
        · rw [hx]; split <;> omega
        · rw [hy]; split <;> omega
      have hcells := HCL.out _ HB.out
      clear hcells
      rcases key with ho | ho
      all_goals
        go_wp2
        go_region_held3 (fun W => (W.cell? (ad.add (i * 2)) = some (.int .i64 a) ∧ W.cell? ⟨(ad.add (i * 2)).block, (ad.add (i * 2)).off + 1, none⟩ = some (.int .i64 b)) ∧ (W.cell? ⟨w.heap.size, 0, none⟩ = some (.int .i64 p) ∧ W.cell? ⟨w.heap.size, 1, none⟩ = some (.int .i64 q))) (go_keep)
          (first | (go_at_call 28; refine Calls.mono (KO2.out _ ?_) ?_; (first | exact Below.refl _ _ | exact (Below.refl _ _).drew | exact below_drewN (Below.refl _ _) _); rintro e w5 ⟨rfl, ⟨⟨c0, c1⟩, s0, s1⟩, HB5⟩))
        go_wp2
        rcases key2 with ⟨rfl, rfl⟩ | h2 | ⟨rfl, h2⟩
      all_goals
        go_region
        go_wp2
      · exact ⟨⟨i + 1, n1 + 1, n2 + 1, by go_num, by go_num, by go_num, by omega, HV.out _ _ (by rw [if_pos ho]) (by rw [if_pos rfl]), HB5.out.1.drew, HB5.out.2⟩, by simp only [intOf]; omega⟩
      · exact ⟨⟨i + 1, n1 + 1, n2, by go_num, by go_num, rfl, by omega, HV.out _ _ (by rw [if_pos ho]) (by rw [if_neg (fun e => h2 (congrArg Prod.fst e))]; exact (Nat.add_zero _).symm), HB5.out.1.drew, HB5.out.2⟩, by simp only [intOf]; omega⟩
      · exact ⟨⟨i + 1, n1 + 1, n2, by go_num, by go_num, rfl, by omega, HV.out _ _ (by rw [if_pos ho]) (by rw [if_neg (fun e => h2 (congrArg Prod.snd e))]; exact (Nat.add_zero _).symm), HB5.out.1.drew, HB5.out.2⟩, by simp only [intOf]; omega⟩
      · exact ⟨⟨i + 1, n1, n2 + 1, by go_num, rfl, by go_num, by omega, HV.out _ _ (by rw [if_neg (by omega)]; exact (Nat.add_zero _).symm) (by rw [if_pos rfl]), HB5.out.1.drew, HB5.out.2⟩, by simp only [intOf]; omega⟩
      · exact ⟨⟨i + 1, n1, n2, by go_num, rfl, rfl, by omega, HV.out _ _ (by rw [if_neg (by omega)]; exact (Nat.add_zero _).symm) (by rw [if_neg (fun e => h2 (congrArg Prod.fst e))]; exact (Nat.add_zero _).symm), HB5.out.1.drew, HB5.out.2⟩, by simp only [intOf]; omega⟩
      · exact ⟨⟨i + 1, n1, n2, by go_num, rfl, rfl, by omega, HV.out _ _ (by rw [if_neg (by omega)]; exact (Nat.add_zero _).symm) (by rw [if_neg (fun e => h2 (congrArg Prod.snd e))]; exact (Nat.add_zero _).symm), HB5.out.1.drew, HB5.out.2⟩, by simp only [intOf]; omega⟩
    · obtain rfl : i = N := by omega
      go_wp2
      refine bodyPost_ret (v := .tuple #[.int .i64 (n1 : Nat), .int .i64 (n2 : Nat), .int .i64 0]) ?_ rfl ⟨by rw [HE.out.1, HE.out.2.1, HT.out], HB.out⟩
      simp [results, Try.results23, go_sem]
  · have hsc : scoB p q = false := decide_eq_false hok
    rw [hsc] at K1
    unfold rkL rkS rkE
    rw [if_neg hok, if_neg hok, if_neg hok]
    clear hA hU hok hsc
    generalize l.length = N at *
    go_enter Try.func23, Try.ntmps23
    go_wp2_with fail
    refine (K1.out _).mono ?_
    rintro e w1 ⟨rfl, b1⟩
    have J1 := Lib.hid (J0.out.below b1)
    clear b1 s0 s1
    go_wp2
    refine bodyPost_ret (v := .tuple #[.int .i64 0, .int .i64 0, .int .i64 130]) ?_ rfl ⟨rfl, J1.out.2.1⟩
    simp [results, Try.results23, go_sem]
end Go.Proofs.Ytaeodkpkgbjaeaa
