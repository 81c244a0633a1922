/- Layer 19 (quant): how many are over a line, by the reference; Share of both. -/
import Derived.Test.YtmfgegebnjpanaaQuaB
import Derived.Test.YtmfgegebnjpanaaVecT
namespace Go.Proofs.Ytmfgegebnjpanaa
open Go.RowKit
set_option linter.unusedVariables false
set_option linter.unusedSimpArgs false

theorem cnK_all {l : List PQ} (h : allS l = true) : ∀ k, k < l.length → ScoOk (l.getD k pq0).1 (l.getD k pq0).2 := fun k hk => by
  have := all_okP h (l.getD k pq0) (by rw [List.getD_eq_getElem?_getD, List.getElem?_eq_getElem hk]; exact List.getElem_mem _)
  exact this
set_option maxRecDepth 100000 in
set_option maxHeartbeats 4000000 in
theorem ref19_count (A : Option Addr) (l : List PQ) (ca : Nat) (c d : Int) (w : World) (hA : LiesS w w.heap.size A l) (hI : okS l) (hl : l.length ≤ 100000) :
    Calls Try.prog 54 #[.slice A l.length ca, .agg #[.int .i64 c, .int .i64 d]] w fun e w' => e = .returned (cnV l c d) ∧ Below w.heap.size w w' := by
  have J0 := Lib.hid ((Keeps.start w).alloc #[.int .i64 c, .int .i64 d] 32)
  obtain ⟨x0, x1, _, _⟩ := J0.out.head.two
  have K := Lib.hid (fun W => ref13_is c d W)
  have KA := Lib.hid (fun W (h : Below w.heap.size w W) => ref13_all A l ca W ((hA.below h).mono h.size) hI (by omega))
  by_cases hk : ScoOk c d
  · rw [scoB_of hk] at K
    by_cases ha : allS l = true
    · rw [ha] at KA
      have HA := Lib.hid hA
      have KO := Lib.hid (fun k (hk2 : k < l.length) W => ref13_odder (l.getD k pq0).1 (l.getD k pq0).2 c d (cnK_all ha k hk2) hk W)
      have HGO : Hid (Ending.returned (.tuple #[.int .i64 ((cntK l (c, d) l.length : Nat) : Int), .int .i64 0]) = .returned (cnV l c d)) := by
        show _ = _
        rw [cntK_all]; exact cn_ok ⟨hk, ha⟩
      have HST : Hid (∀ k, k < l.length → (0 ≤ oddC (l.getD k pq0).1 (l.getD k pq0).2 c d → cntK l (c, d) (k + 1) = cntK l (c, d) k + 1) ∧ (oddC (l.getD k pq0).1 (l.getD k pq0).2 c d < 0 → cntK l (c, d) (k + 1) = cntK l (c, d) k)) := fun k hk2 => by
        rw [cntK_succ hk2]
        unfold ovB
        constructor
        · intro h; rw [if_pos (decide_eq_true h)]
        · intro h; rw [if_neg (by rw [decide_eq_true_iff]; show ¬ (0 ≤ oddC (l.getD k pq0).1 (l.getD k pq0).2 c d); omega)]; rfl
      have HLE := Lib.hid (cntK_le l (c, d))
      have H0 : Hid ((0 : Int) = ((cntK l (c, d) 0 : Nat) : Int)) := rfl
      clear hA hI hk ha
      generalize cnV l c d = R at *
      generalize hN : l.length = N at *
      have HN := Lib.hid hN
      clear hN
      go_enter Try.func54, Try.ntmps54
      go_wp2_with fail
      refine (K.out _).mono ?_
      rintro e w1 ⟨rfl, b1⟩
      have J1 := Lib.hid (J0.out.below b1)
      clear b1 x0 x1
      go_wp2_with fail
      refine (KA.out _ J1.out.2.1).mono ?_
      rintro e w2 ⟨rfl, b2⟩
      have J2 := Lib.hid (J1.out.below b2)
      clear b2
      go_wp2
      go_loopw [7, 6] (fun i m wr => ∃ k : Nat, k ≤ N ∧ i = .int .i64 k ∧ m = .int .i64 ((cntK l (c, d) k : Nat) : Int) ∧ Hid (Box wr w.heap.size #[.int .i64 c, .int .i64 d] 32) ∧ Hid (Below w.heap.size w wr)) (fun i _ _ => N - (intOf i).toNat)
      case atStart => exact ⟨0, by omega, rfl, by rw [← H0.out], J2.out.head, J2.out.2.1⟩
      case round =>
        obtain ⟨k, hk, rfl, rfl, HL, HB⟩ := hrel
        clear J0 J1 J2 K KA
        by_cases hlt : k < N
        · have HAr : Hid (LiesS wr w.heap.size A l) := HA.out.below HB.out
          obtain ⟨ad, rfl, hbk, c0, c1⟩ := HAr.out.at (k := k) (by have := HN.out; omega)
          have HCL : Hid (∀ W, Below w.heap.size w W → W.cell? (ad.add (k * 2)) = some (.int .i64 (l.getD k pq0).1) ∧ W.cell? ⟨(ad.add (k * 2)).block, (ad.add (k * 2)).off + 1, none⟩ = some (.int .i64 (l.getD k pq0).2)) := fun W hb => by
            obtain ⟨ad', eA, _, c0, c1⟩ := (HA.out.below hb).at (k := k) (by have := HN.out; omega)
            cases eA
            exact ⟨c0, c1⟩
          have hki : (k : Int) < (N : Int) := by omega
          have hle := HLE.out k
          have KO1 := Lib.hid (KO.out k hlt)
          have HS1 := Lib.hid (HST.out k hlt)
          obtain ⟨l0, l1, _, _⟩ := HL.out.two
          clear KO HST HGO HLE HAr
          generalize hcn : cntK l (c, d) (k + 1) = m' at *
          have HCN := Lib.hid hcn
          clear hcn
          generalize cntK l (c, d) k = m at *
          generalize (l.getD k pq0).1 = p at *
          generalize (l.getD k pq0).2 = q at *
          generalize oddC p q c d = o at *
          have HL := Lib.hid (HL.out.drewN 1)
          have HB := Lib.hid (below_drewN2 HB.out 1)
          by_cases hb : 0 ≤ o
          · have hS := Lib.hid (HS1.out.1 hb)
            clear HS1
            go_wp2
            go_region_held3 (fun W => W.cell? ⟨w.heap.size, 0, none⟩ = some (.int .i64 c) ∧ W.cell? ⟨w.heap.size, 1, none⟩ = some (.int .i64 d) ∧ W.cell? (ad.add (k * 2)) = some (.int .i64 p) ∧ W.cell? ⟨(ad.add (k * 2)).block, (ad.add (k * 2)).off + 1, none⟩ = some (.int .i64 q)) (first | assumption | go_keep)
              (first | (go_at_call 44; refine (KO1.out _).mono ?_; rintro e w5 ⟨rfl, b5⟩; have HB5 := Lib.hid (HB.out.trans (b5.mono HB.out.size)); have HL5 := Lib.hid (HL.out.below b5 HL.out.lt); obtain ⟨l0, l1, _, _⟩ := HL5.out.two; obtain ⟨c0, c1⟩ := HCL.out _ HB5.out; clear b5))
            all_goals
              go_wp2
              exact ⟨⟨k + 1, by omega, by go_num, by rw [HCN.out, hS.out]; go_num, HL5, HB5⟩, by first | (simp [intOf]; done) | (simp [intOf]; omega)⟩
          · have hS := Lib.hid (HS1.out.2 (by omega))
            have hb2 : o < 0 := by omega
            have hb3 : decide (0 ≤ o) = false := decide_eq_false hb
            clear HS1 hb
            go_wp2
            go_region_held3 (fun W => W.cell? ⟨w.heap.size, 0, none⟩ = some (.int .i64 c) ∧ W.cell? ⟨w.heap.size, 1, none⟩ = some (.int .i64 d) ∧ W.cell? (ad.add (k * 2)) = some (.int .i64 p) ∧ W.cell? ⟨(ad.add (k * 2)).block, (ad.add (k * 2)).off + 1, none⟩ = some (.int .i64 q)) (first | assumption | go_keep)
              (first | (go_at_call 44; refine (KO1.out _).mono ?_; rintro e w5 ⟨rfl, b5⟩; have HB5 := Lib.hid (HB.out.trans (b5.mono HB.out.size)); have HL5 := Lib.hid (HL.out.below b5 HL.out.lt); obtain ⟨l0, l1, _, _⟩ := HL5.out.two; obtain ⟨c0, c1⟩ := HCL.out _ HB5.out; clear b5))
            all_goals
              go_wp2
              exact ⟨⟨k + 1, by omega, by go_num, by rw [HCN.out, hS.out], HL5, HB5⟩, by first | (simp [intOf]; done) | (simp [intOf]; omega)⟩
        · obtain rfl : k = N := by omega
          clear KO HST HLE
          go_wp2
          go_ret2
          exact ⟨HGO.out, HB.out⟩
    · have ha : allS l = false := by simpa using ha
      rw [ha] at KA
      have HR := Lib.hid (cn_no (l := l) (c := c) (d := d) fun h => by rw [h.2] at ha; cases ha)
      clear hA hI hk
      generalize cnV l c d = R at *
      generalize l.length = N at *
      go_enter Try.func54, Try.ntmps54
      go_wp2_with fail
      refine (K.out _).mono ?_
      rintro e w1 ⟨rfl, b1⟩
      have J1 := Lib.hid (J0.out.below b1)
      clear b1 x0 x1
      go_wp2_with fail
      refine (KA.out _ J1.out.2.1).mono ?_
      rintro e w2 ⟨rfl, b2⟩
      have HB1 := Lib.hid (J1.out.below b2).2.1
      clear b2
      go_wp2
      go_ret2
      exact ⟨HR.out, HB1.out⟩
  · rw [scoB_no hk] at K
    have HR := Lib.hid (cn_no (l := l) (c := c) (d := d) fun h => hk h.1)
    clear hA hI hk KA
    generalize cnV l c d = R at *
    generalize l.length = N at *
    go_enter Try.func54, Try.ntmps54
    go_wp2_with fail
    refine (K.out _).mono ?_
    rintro e w1 ⟨rfl, b1⟩
    have HB1 := Lib.hid (J0.out.below b1).2.1
    clear b1 x0 x1
    go_wp2
    go_ret2
    exact ⟨HR.out, HB1.out⟩
/-- which part of all is over the line -/
def shP (l : List PQ) (c d : Int) : Int := if cnOk l c d then ofP (cntO l (c, d) : Nat) (l.length : Nat) else 0
def shQ (l : List PQ) (c d : Int) : Int := if cnOk l c d then ofQ (cntO l (c, d) : Nat) (l.length : Nat) else 0
def shE (l : List PQ) (c d : Int) : Int := if cnOk l c d then ofE (cntO l (c, d) : Nat) (l.length : Nat) else 130
abbrev shV (l : List PQ) (c d : Int) : Value := .tuple #[.agg #[.int .i64 (shP l c d), .int .i64 (shQ l c d)], .int .i64 (shE l c d)]
theorem sh_ok {l : List PQ} {c d : Int} (h : cnOk l c d) : ofV (cntO l (c, d) : Nat) (l.length : Nat) = shV l c d ∧ cnN l c d = (cntO l (c, d) : Nat) ∧ cnE l c d = 0 := by
  unfold shV shP shQ shE cnN cnE
  rw [if_pos h, if_pos h, if_pos h, if_pos h, if_pos h]
  exact ⟨rfl, rfl, rfl⟩
theorem sh_no {l : List PQ} {c d : Int} (h : ¬ cnOk l c d) : Value.tuple #[.agg #[.int .i64 0, .int .i64 0], .int .i64 130] = shV l c d ∧ cnN l c d = 0 ∧ cnE l c d = 130 := by
  unfold shV shP shQ shE cnN cnE
  rw [if_neg h, if_neg h, if_neg h, if_neg h, if_neg h]
  exact ⟨rfl, rfl, rfl⟩
set_option maxRecDepth 100000 in
set_option maxHeartbeats 4000000 in
theorem qua_share (A : Option Addr) (l : List PQ) (ca : Nat) (c d : Int) (w : World) (hA : LiesS w w.heap.size A l) (hI : okS l) (hl : l.length ≤ 100000) (hc : I64 c) (hd : I64 d) :
    Calls Try.prog 55 #[.slice A l.length ca, .agg #[.int .i64 c, .int .i64 d]] w fun e w' => e = .returned (shV l c d) ∧ Below w.heap.size w w' := by
  have J0 := Lib.hid (((Keeps.start w).alloc #[.int .i64 c, .int .i64 d] 32).alloc #[.int .i64 0, .int .i64 0] 83)
  obtain ⟨x0, x1, _, _⟩ := J0.out.tail.head.two
  have K := Lib.hid (qua_count A l ca c d ((w.alloc (.cells #[.int .i64 c, .int .i64 d] 32)).alloc (.cells #[.int .i64 0, .int .i64 0] 83)) ((hA.below J0.out.2.1).mono J0.out.2.1.size) hI hl hc hd)
  have hcl : I64 (cntO l (c, d) : Nat) ∧ I64 (l.length : Nat) := by
    have := cntO_le l (c, d)
    unfold I64; omega
  have KO := Lib.hid (fun W => rat_of (cntO l (c, d) : Nat) (l.length : Nat) hcl.1 hcl.2 W)
  unfold cnV at K
  by_cases h : cnOk l c d
  · obtain ⟨e1, e2, e3⟩ := sh_ok h
    rw [e2, e3] at K
    rw [e1] at KO
    unfold shV at KO ⊢
    clear hA hI e1 e2 e3 h hcl
    generalize shP l c d = p at *
    generalize shQ l c d = q at *
    generalize shE l c d = e0 at *
    generalize cntO l (c, d) = m at *
    generalize l.length = N at *
    go_enter Try.func55, Try.ntmps55
    go_wp2_with fail
    refine (K.out).mono ?_
    rintro e w1 ⟨rfl, b1⟩
    have J1 := Lib.hid (J0.out.below b1)
    clear b1 x0 x1
    go_wp2_with fail
    refine (KO.out _).mono ?_
    rintro e w2 ⟨rfl, b2⟩
    have J2 := Lib.hid (J1.out.below b2)
    obtain ⟨r0, r1, r2, r3⟩ := J2.out.head.two
    rw [alloc_size'] at r0 r1 r2 r3
    have Z := J2.out.head.set2 (.int .i64 p) (.int .i64 q)
    rw [alloc_size'] at Z
    obtain ⟨k0, k1, _, _⟩ := Z.two
    clear b2
    go_wp2
    refine bodyPost_ret (v := .tuple #[.agg #[.int .i64 p, .int .i64 q], .int .i64 e0]) ?_ rfl ⟨rfl, (J2.out.2.1.setCell (p := ⟨w.heap.size + 1, 0, none⟩) (by show w.heap.size ≤ w.heap.size + 1; omega) _).setCell (p := ⟨w.heap.size + 1, 1, none⟩) (by show w.heap.size ≤ w.heap.size + 1; omega) _⟩
    simp [results, Try.results55, go_sem, k0, k1]
  · obtain ⟨e1, e2, e3⟩ := sh_no h
    rw [e2, e3] at K
    rw [← e1]
    clear hA hI e1 e2 e3 h hcl KO
    generalize l.length = N at *
    go_enter Try.func55, Try.ntmps55
    go_wp2_with fail
    refine (K.out).mono ?_
    rintro e w1 ⟨rfl, b1⟩
    have J1 := Lib.hid (J0.out.below b1)
    obtain ⟨r0, r1, r2, r3⟩ := J1.out.head.two
    rw [alloc_size'] at r0 r1 r2 r3
    have Z := J1.out.head.set2 (.int .i64 0) (.int .i64 0)
    rw [alloc_size'] at Z
    obtain ⟨k0, k1, _, _⟩ := Z.two
    clear b1 x0 x1
    go_wp2
    refine bodyPost_ret (v := .tuple #[.agg #[.int .i64 0, .int .i64 0], .int .i64 130]) ?_ rfl ⟨rfl, (J1.out.2.1.setCell (p := ⟨w.heap.size + 1, 0, none⟩) (by show w.heap.size ≤ w.heap.size + 1; omega) _).setCell (p := ⟨w.heap.size + 1, 1, none⟩) (by show w.heap.size ≤ w.heap.size + 1; omega) _⟩
    simp [results, Try.results55, go_sem, k0, k1]
set_option maxRecDepth 100000 in
set_option maxHeartbeats 4000000 in
theorem ref19_share (A : Option Addr) (l : List PQ) (ca : Nat) (c d : Int) (w : World) (hA : LiesS w w.heap.size A l) (hI : okS l) (hl : l.length ≤ 100000) :
    Calls Try.prog 56 #[.slice A l.length ca, .agg #[.int .i64 c, .int .i64 d]] w fun e w' => e = .returned (shV l c d) ∧ Below w.heap.size w w' := by
  have J0 := Lib.hid (((Keeps.start w).alloc #[.int .i64 c, .int .i64 d] 32).alloc #[.int .i64 0, .int .i64 0] 83)
  obtain ⟨x0, x1, _, _⟩ := J0.out.tail.head.two
  have K := Lib.hid (ref19_count A l ca c d ((w.alloc (.cells #[.int .i64 c, .int .i64 d] 32)).alloc (.cells #[.int .i64 0, .int .i64 0] 83)) ((hA.below J0.out.2.1).mono J0.out.2.1.size) hI hl)
  have hcl : I64 (cntO l (c, d) : Nat) ∧ I64 (l.length : Nat) := by
    have := cntO_le l (c, d)
    unfold I64; omega
  have KO := Lib.hid (fun W => ref3_of (cntO l (c, d) : Nat) (l.length : Nat) hcl.1 hcl.2 W)
  unfold cnV at K
  by_cases h : cnOk l c d
  · obtain ⟨e1, e2, e3⟩ := sh_ok h
    rw [e2, e3] at K
    rw [e1] at KO
    unfold shV at KO ⊢
    clear hA hI e1 e2 e3 h hcl
    generalize shP l c d = p at *
    generalize shQ l c d = q at *
    generalize shE l c d = e0 at *
    generalize cntO l (c, d) = m at *
    generalize l.length = N at *
    go_enter Try.func56, Try.ntmps56
    go_wp2_with fail
    refine (K.out).mono ?_
    rintro e w1 ⟨rfl, b1⟩
    have J1 := Lib.hid (J0.out.below b1)
    clear b1 x0 x1
    go_wp2_with fail
    refine (KO.out _).mono ?_
    rintro e w2 ⟨rfl, b2⟩
    have J2 := Lib.hid (J1.out.below b2)
    obtain ⟨r0, r1, r2, r3⟩ := J2.out.head.two
    rw [alloc_size'] at r0 r1 r2 r3
    have Z := J2.out.head.set2 (.int .i64 p) (.int .i64 q)
    rw [alloc_size'] at Z
    obtain ⟨k0, k1, _, _⟩ := Z.two
    clear b2
    go_wp2
    refine bodyPost_ret (v := .tuple #[.agg #[.int .i64 p, .int .i64 q], .int .i64 e0]) ?_ rfl ⟨rfl, (J2.out.2.1.setCell (p := ⟨w.heap.size + 1, 0, none⟩) (by show w.heap.size ≤ w.heap.size + 1; omega) _).setCell (p := ⟨w.heap.size + 1, 1, none⟩) (by show w.heap.size ≤ w.heap.size + 1; omega) _⟩
    simp [results, Try.results56, go_sem, k0, k1]
  · obtain ⟨e1, e2, e3⟩ := sh_no h
    rw [e2, e3] at K
    rw [← e1]
    clear hA hI e1 e2 e3 h hcl KO
    generalize l.length = N at *
    go_enter Try.func56, Try.ntmps56
    go_wp2_with fail
    refine (K.out).mono ?_
    rintro e w1 ⟨rfl, b1⟩
    have J1 := Lib.hid (J0.out.below b1)
    obtain ⟨r0, r1, r2, r3⟩ := J1.out.head.two
    rw [alloc_size'] at r0 r1 r2 r3
    have Z := J1.out.head.set2 (.int .i64 0) (.int .i64 0)
    rw [alloc_size'] at Z
    obtain ⟨k0, k1, _, _⟩ := Z.two
    clear b1 x0 x1
    go_wp2
    refine bodyPost_ret (v := .tuple #[.agg #[.int .i64 0, .int .i64 0], .int .i64 130]) ?_ rfl ⟨rfl, (J1.out.2.1.setCell (p := ⟨w.heap.size + 1, 0, none⟩) (by show w.heap.size ≤ w.heap.size + 1; omega) _).setCell (p := ⟨w.heap.size + 1, 1, none⟩) (by show w.heap.size ≤ w.heap.size + 1; omega) _⟩
    simp [results, Try.results56, go_sem, k0, k1]
end Go.Proofs.Ytmfgegebnjpanaa
