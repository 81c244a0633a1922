/- Layer 18 (bag): Drop. -/
import Derived.Test.YtaeodkpkgbjaeaaBbC
namespace Go.Proofs.Ytaeodkpkgbjaeaa
open Go.RowKit
set_option linter.unusedVariables false
set_option linter.unusedSimpArgs false

set_option maxRecDepth 100000 in
set_option maxHeartbeats 4000000 in
theorem bag_drop_no (O : List Nat) (g : Nat) (l : List PQ) (p q : Int) (hp : I64 p) (hq : I64 q) (w : World) (h : BagAt w O g l) (hok : ¬ okP (p, q)) :
    Calls Try.prog 27 #[.pointer (some ⟨g, 0, none⟩), .agg #[.int .i64 p, .int .i64 q]] w (BgR w O g 130 l) := by
  have HR : Hid (∀ x w', Below w.heap.size w w' → BgR w O g x l (.returned (.int .i64 x)) w') := fun x w' hb => BgR.same h hb
  obtain ⟨gB, c, bs, -, hb, -⟩ := h
  have J0 := Lib.hid ((Keeps.start w).alloc #[.int .i64 p, .int .i64 q] 24)
  obtain ⟨s0, s1, _, _⟩ := J0.out.head.two
  have K1 := Lib.hid (fun W => bag_check (some ⟨g, 0, none⟩) p q hp hq W)
  rw [if_neg (by simp)] at K1
  have HB := Lib.hid hb
  · rw [bcE_no hok] at K1
    clear hb
    go_enter Try.func27, Try.ntmps27
    go_wp2_with fail
    refine (K1.out _).mono ?_
    rintro e w1 ⟨rfl, b1⟩
    have J1 := Lib.hid (J0.out.below b1)
    clear b1
    go_wp2
    go_ret
    exact HR.out 130 _ J1.out.2.1
set_option maxRecDepth 100000 in
set_option maxHeartbeats 4000000 in
theorem bag_drop (O : List Nat) (g : Nat) (l : List PQ) (p q : Int) (w : World) (h : BagAt w O g l) (hok : okP (p, q)) :
    Calls Try.prog 27 #[.pointer (some ⟨g, 0, none⟩), .agg #[.int .i64 p, .int .i64 q]] w fun e w' => ∃ k, CutQ (fun x => byB x.1 x.2 p q) l k ∧ ((0 < k ∧ l.getD (k - 1) pq0 = (p, q) ∧ BgR w O g 0 (l.eraseIdx (k - 1)) e w') ∨ ((k = 0 ∨ l.getD (k - 1) pq0 ≠ (p, q)) ∧ BgR w O g 4 l e w')) := by
  have HH := Lib.hid h
  obtain ⟨gB, c, bs, hO, hb, hB, hgn, hOk, hfl, hU, hl⟩ := h
  obtain ⟨hp, hq⟩ := okP_I64 hok
  have J0 := Lib.hid ((Keeps.start w).alloc #[.int .i64 p, .int .i64 q] 24)
  obtain ⟨s0, s1, _, _⟩ := J0.out.head.two
  have K1 := Lib.hid (fun W => bag_check (some ⟨g, 0, none⟩) p q hp hq W)
  rw [if_neg (by simp), bcE_ok hok] at K1
  have HB := Lib.hid hb
  have HOK := Lib.hid hok
  have hfew := hOk.few
  rw [hfl] at hfew
  have HBK := Lib.hid hB
  have HIN := Lib.hid (show O = g :: memB gB bs ∧ g ∉ memB gB bs ∧ OkL bs ∧ flat bs = l ∧ UpS l ∧ bs.length ≤ 4097 ∧ bs.length ≤ c ∧ l.length ≤ 4096 from ⟨hO, hgn, hOk, hfl, hU, by omega, hB.cap, hl⟩)
  obtain ⟨N, hN⟩ : ∃ N, N = l.length := ⟨_, rfl⟩
  obtain ⟨nb, hnb⟩ : ∃ nb, nb = bs.length := ⟨_, rfl⟩
  rw [← hN, ← hnb] at HB
  have hwN : IntKind.i64.wrap ((N : Int) - 1) = (N : Int) - 1 := by rw [IntKind.wrap_i64]; omega
  have HN := Lib.hid hN
  have HNB := Lib.hid hnb
  clear hO hb hB hgn hOk hfl hU hfew hl hN hnb
  go_enter Try.func27, Try.ntmps27
  go_wp2_with fail
  refine (K1.out _).mono ?_
  rintro e w1 ⟨rfl, b1⟩
  have J1 := Lib.hid (J0.out.below b1)
  clear b1 s0 s1
  obtain ⟨x0, x1, f0, f1⟩ := (HB.out.below J1.out.2.1 HB.out.lt).two
  obtain ⟨s0, s1, _, _⟩ := J1.out.head.two
  go_upto_region 4 with fail
  have J2 := Lib.hid (J1.out.alloc #[.int .i64 p, .int .i64 q] 24)
  obtain ⟨x2, x3, _, _⟩ := (HB.out.below J2.out.2.1 HB.out.lt).two
  have KF : Hid (∀ W : World, Below (w1.heap.size + 1) (w1.alloc (.cells #[.int .i64 p, .int .i64 q] 24)) W → Calls Try.prog 88 #[.slice (some ⟨gB, 0, none⟩) nb c, .func (.func 145) #[] #[.pointer (some ⟨w1.heap.size, 0, none⟩)]] W fun e w' => ∃ d r : Nat, e = .returned (.tuple #[.int .i64 d, .int .i64 r]) ∧ Hid ((d < bs.length ∧ r ≤ lnA bs d ∧ CutQ (fun x => byB x.1 x.2 p q) l (sumA bs d + r) ∧ (r = 0 → d = 0)) ∧ Below w1.heap.size w1 w')) := fun W hbW => by
    have hJ := J2.out.below (by simp only [alloc_size']; exact hbW)
    obtain ⟨-, -, hOk, hfl, hU, -, hcap, hl⟩ := HIN.out
    have hOB := hOk.okB (by rw [hfl]; omega)
    have hM := hU.mono2 HOK.out
    have hM' : MonoQ (fun x => byB x.1 x.2 p q) (flat bs) := by rw [hfl]; exact hM
    have hsz := hbW.size
    rw [alloc_size'] at hsz
    have hlies := (HBK.out.below hJ.2.1).lies
    rw [HNB.out]
    refine (bag_find gB c 145 W.heap.size _ (fun x => byB x.1 x.2 p q) bs W (enters_of Try.func145 (by kernel_rfl) rfl) (Nat.le_refl _) hlies hOB (bag_tells p q hp hq w1.heap.size _ W hJ.head (by omega)) (hM'.m1 hOB) hM'.m2).mono ?_
    rintro e w' ⟨d, r, rfl, hd, hr, F1, T1, F2, T2, hb'⟩
    have hcq := CutQ.of hM' hOB hd hr F1 T1 F2 T2
    rw [hfl] at hcq
    refine ⟨d, r, rfl, ⟨hd, hr, hcq, fun h0 => ?_⟩, ?_⟩
    · rcases Nat.eq_zero_or_pos d with g | g
      · exact g
      · have f := F1 (d - 1) (by omega)
        rw [show d - 1 + 1 = d by omega] at f
        rw [T2 0 (by omega) (hOB.full d g hd)] at f
        cases f
    exact ((Below.refl _ w1).alloc (Nat.le_refl _) _).trans ((hbW.mono (by omega)).trans (hb'.mono (by omega)))
  go_cut [6, 7] from 14 to 23 (fun a b wx => ∃ d r : Nat, a = .int .i64 d ∧ b = .int .i64 r ∧ Hid ((d < bs.length ∧ r ≤ lnA bs d ∧ CutQ (fun x => byB x.1 x.2 p q) l (sumA bs d + r) ∧ (r = 0 → d = 0)) ∧ Below w1.heap.size w1 wx))
  case first =>
    go_wp2_with fail
    go_region_with (first
      | (go_at_call 85; refine (bag_beyond p q _).mono ?_; rintro e w2 ⟨rfl, rfl⟩)
      | (go_at_call 88; refine (KF.out _ ?_).mono ?_; (first | exact Below.refl _ _ | exact (Below.refl _ _).drew | exact below_drewN (Below.refl _ _) _); rintro e w3 ⟨d, r, rfl, HDR⟩))
    all_goals
      go_wp2_with fail
      simp only [Act.put, List.getElem_toArray, List.getElem_cons_succ, List.getElem_cons_zero, List.setIfInBounds_toArray, List.set_cons_succ, List.set_cons_zero]
      go_meet
      exact ⟨d, r, rfl, rfl, HDR⟩
  case rest =>
  obtain ⟨d, r, rfl, rfl, HDR⟩ := hcut
  have J3 := Lib.hid (J1.out.below HDR.out.2)
  clear x0 x1 f0 f1 s0 s1 x2 x3
  obtain ⟨s0, s1, _, _⟩ := J3.out.head.two
  have HB3 := Lib.hid (HB.out.below J3.out.2.1 HB.out.lt)
  obtain ⟨y0, y1, g0, g1⟩ := HB3.out.two
  have HSAME : Hid (∀ W, Below wc.heap.size wc W → BgR w O g 4 l (.returned (.int .i64 4)) W) := fun W hW => BgR.same HH.out (J3.out.2.1.trans (hW.mono J3.out.2.1.size))
  go_upto_region 5 with fail
  by_cases hr0 : r = 0
  · subst hr0
    have q0 : (((0 : Nat) : Int) == 0) = true := rfl
    go_quiet (fail)
    go_wp2
    go_ret
    obtain ⟨⟨hd, hr, hcq, hd0⟩, hbw⟩ := HDR.out
    obtain rfl := hd0 (by first | rfl | trivial)
    exact ⟨_, hcq, Or.inr ⟨Or.inl rfl, HSAME.out _ (by first | exact (Below.refl _ _).drew | exact below_drewN (Below.refl _ _) _)⟩⟩
  · have q0 : ((r : Int) == 0) = false := by simp; omega
    obtain ⟨r1, hr1⟩ : ∃ r1, r1 + 1 = r := ⟨r - 1, by omega⟩
    have hwr1 : IntKind.i64.wrap ((r : Int) - 1) = (r1 : Int) := by
      have hr64 : r ≤ 64 := by
        obtain ⟨⟨hd, hr, -⟩, -⟩ := HDR.out
        have := (HIN.out.2.2.1.okB (by rw [HIN.out.2.2.2.1]; have := HIN.out.2.2.2.2.2.2.2; omega)).room d hd
        omega
      rw [IntKind.wrap_i64]; omega
    have hL := (HBK.out.below J3.out.2.1).lies
    have hdb := HDR.out.1.1
    have c1 := hL.hd d hdb
    obtain ⟨e0, e1⟩ := hL.score hdb (j := r1) (by have := HDR.out.1.2.1; unfold lnA at this; omega)
    have hfa := (flat_at bs d r1 hdb (by have := HDR.out.1.2.1; omega)).1
    rw [HIN.out.2.2.2.1, show sumA bs d + r1 = sumA bs d + r - 1 by omega] at hfa
    have HE : Hid (l.getD (sumA bs d + r - 1) pq0 = (((bs.getD d bk0).2.getD r1 pq0).1, ((bs.getD d bk0).2.getD r1 pq0).2)) := hfa
    have k1 : (d : Int) < (nb : Int) := by rw [HNB.out]; omega
    have k2 : (r1 : Int) < ((bs.getD d bk0).2.length : Int) := by have := HDR.out.1.2.1; unfold lnA at this; omega
    unfold blkV at c1
    have k3 : nb ≤ c := by rw [HNB.out]; exact HIN.out.2.2.2.2.2.2.1
    have HKR : Hid (r1 + 1 = r) := hr1
    clear hL hdb hfa hr1
    generalize ((bs.getD d bk0).2.getD r1 pq0).1 = a0 at *
    generalize ((bs.getD d bk0).2.getD r1 pq0).2 = b0 at *
    generalize (bs.getD d bk0).2.length = ln at *
    generalize (bs.getD d bk0).1 = gb at *
    by_cases hab : a0 = p ∧ b0 = q
    · obtain ⟨rfl, rfl⟩ := hab
      go_quiet (fail)
      generalize hnq : wc.drewN _ = W
      obtain ⟨hBq, z0, z1, h0, h1⟩ : Below wc.heap.size wc W ∧ W.cell? ⟨g, 0, none⟩ = some (.slice (some ⟨gB, 0, none⟩) nb c) ∧ W.cell? ⟨g, 1, none⟩ = some (.int .i64 N) ∧ W.frozen? ⟨g, 0, none⟩ = false ∧ W.frozen? ⟨g, 1, none⟩ = false := by rw [← hnq]; exact ⟨below_drewN (Below.refl _ _) _, y0, y1, g0, g1⟩
      have HBq := Lib.hid hBq
      clear hnq hBq y0 y1 g0 g1 e0 e1 c1 s0 s1 k1 k2 k3
      have KC : Hid (Calls Try.prog 91 #[.slice (some ⟨gB, 0, none⟩) nb c, .int .i64 d, .int .i64 r1] W fun e w' => ∃ g' c' n' : Nat, e = .returned (.slice (some ⟨g', 0, none⟩) n' c') ∧ (w'.cell? ⟨g, 0, none⟩ = some (.slice (some ⟨gB, 0, none⟩) nb c) ∧ w'.frozen? ⟨g, 0, none⟩ = false) ∧
          Hid (∃ bs', n' = bs'.length ∧ BksAt w' g' c' bs' ∧ WrS O w w' ∧ (∀ x ∈ memB g' bs', x ∈ memB gB bs ∨ w.heap.size ≤ x) ∧ Box w' g #[.slice (some ⟨gB, 0, none⟩) nb c, .int .i64 N] 126 ∧ flat bs' = l.eraseIdx (sumA bs d + r - 1) ∧ OkL bs')) := by
        obtain ⟨hO, hgn, hOk, hfl, hU, hlen, hcap, hl⟩ := HIN.out
        obtain ⟨⟨hd, hr, hcq, -⟩, hbw⟩ := HDR.out
        have hbW : Below w.heap.size w W := J3.out.2.1.trans (HBq.out.mono J3.out.2.1.size)
        have hkr := HKR.out
        have K := cut_bag gB c bs d r1 g _ _ _ W (HBK.out.below hbW) hgn hOk hd (by omega) (by omega) (HB.out.below hbW HB.out.lt)
        rw [← HNB.out] at K
        refine K.mono ?_
        rintro e w' ⟨g', c', bs', rfl, h1, h2, h3, h4, h5, h6⟩
        refine ⟨g', c', bs'.length, rfl, ⟨(h4.cell 0).trans rfl, h4.free 0⟩, bs', rfl, h1, (WrS.of O hbW).trans h2 fun x hx => Or.inl (by rw [hO]; exact List.mem_cons_of_mem _ hx), fun x hx => (h3 x hx).imp id fun h => by have := hbW.size; omega, h4, by rw [h5, hfl]; congr 1; omega, h6⟩
      go_wp2_with fail
      refine KC.out.mono ?_
      rintro e W5 ⟨g', c', n', rfl, ⟨t0, t1⟩, HQ⟩
      have HZ : Hid (Box (W5.setCell ⟨g, 0, none⟩ (.slice (some ⟨g', 0, none⟩) n' c')) g #[.slice (some ⟨g', 0, none⟩) n' c', .int .i64 N] 126) := by
        obtain ⟨bs', -, -, -, -, hbx, -⟩ := HQ.out
        exact hbx.set 0 _
      obtain ⟨v0, v1, o0, o1⟩ := HZ.out.two
      clear z0 z1 h0 h1
      go_wp2
      go_ret
      obtain ⟨bs', hn', h2, h3, h4, h5, h6, h7⟩ := HQ.out
      obtain ⟨hO, hgn, hOk, hfl, hU, hlen, hcap, hl⟩ := HIN.out
      obtain ⟨⟨hd, hr, hcq, -⟩, hbw⟩ := HDR.out
      have hgl := HB.out.lt
      have hcl := hcq.le
      have hle : (l.eraseIdx (sumA bs d + r - 1)).length = N - 1 := by rw [List.length_eraseIdx_of_lt (by omega), HN.out]
      have hgn' : g ∉ memB g' bs' := fun hx => by
        rcases h4 g hx with k | k
        · exact hgn k
        · omega
      have hkeep : ∀ u, ∀ x ∈ memB g' bs', (((W5.setCell ⟨g, 0, none⟩ (.slice (some ⟨g', 0, none⟩) n' c')).setCell ⟨g, 1, none⟩ u).heap[x]? = W5.heap[x]?) := fun u x hx => by
        have hne : x ≠ g := fun e => hgn' (by rw [← e]; exact hx)
        exact (Below.heap_setCell _ _ _ _ hne).trans (Below.heap_setCell _ _ _ _ hne)
      refine ⟨sumA bs d + r, hcq, Or.inl ⟨by omega, HE.out, rfl, g :: memB g' bs', ⟨g', c', bs', rfl, ?_, h2.keep (hkeep _), hgn', h7, h6, hU.del _, ?_⟩, ?_, ?_⟩⟩
      · have := HZ.out.set 1 (.int .i64 ((N : Int) - 1))
        rw [hn'] at this
        rw [hle, show (((N - 1 : Nat)) : Int) = (N : Int) - 1 by have := HN.out; omega]
        rw [hn']
        exact this
      · rw [hle]; have := HN.out; omega
      · exact (h3.trans (WrS.cell O _ g 0 _ (by rw [hO]; simp)) fun x hx => Or.inl hx).trans (WrS.cell O _ g 1 _ (by rw [hO]; simp)) fun x hx => Or.inl hx
      · intro x hx
        rcases List.mem_cons.1 hx with rfl | hx
        · exact Or.inl (by rw [hO]; simp)
        · exact (h4 x hx).imp (fun k => by rw [hO]; exact List.mem_cons_of_mem _ k) id
    · have HNO : Hid (l.getD (sumA bs d + r - 1) pq0 ≠ (p, q)) := by
        show _ ≠ _
        rw [HE.out]
        intro e
        exact hab ⟨congrArg Prod.fst e, congrArg Prod.snd e⟩
      have key : (¬ a0 = p) ∨ (a0 = p ∧ ¬ b0 = q) := by omega
      clear hab
      rcases key with h1 | ⟨rfl, h1⟩
      all_goals
        go_quiet (fail)
        go_wp2
        go_ret
        exact ⟨_, HDR.out.1.2.2.1, Or.inr ⟨Or.inr HNO.out, HSAME.out _ (by first | exact (Below.refl _ _).drew | exact below_drewN (Below.refl _ _) _)⟩⟩
end Go.Proofs.Ytaeodkpkgbjaeaa
