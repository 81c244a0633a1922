/- Layer 22 (item): seen events written: PutSeen of the code; RightSeen, Seen of the reference. -/
import Derived.Test.YtpoemflclbhekaaGreatSeeA
import Derived.Test.YtpoemflclbhekaaGreatItmY
namespace Go.Proofs.YtpoemflclbhekaaGreat
open Go.RowKit
set_option linter.unusedVariables false
set_option linter.unusedSimpArgs false

theorem eB_len {id : Int} {X : List Int} {p q : Int} {sc : Bool} {dim : Int} (h : rsB id X p q sc dim = true) : (eB id X p q sc).length ≤ 200 := by
  obtain ⟨h1, h2, h3⟩ := rsB_ok h
  obtain ⟨d1, d2, d3, d4⟩ := isV_iff.1 h2
  have g1 := (uB_len (n := id.toNat) (by omega)).2
  have g2 := flat_iB X (fun x hx => by have := d4 x hx; unfold I64; omega)
  unfold eB
  rw [List.length_append, List.length_append]
  cases sc
  · rw [if_neg (by simp), u01.1]; simp only [List.length_cons, List.length_nil]; omega
  · have g3 := scB_len (scoB_ok (h3 rfl))
    rw [if_pos rfl, u01.2]
    unfold scW
    rw [if_pos (h3 rfl), List.length_append]
    simp only [List.length_cons, List.length_nil]
    omega
theorem eW_len (id : Int) (X : List Int) (p q : Int) (sc : Bool) (dim : Int) : (eW id X p q sc dim).length ≤ 200 := by
  unfold eW
  by_cases h : rsB id X p q sc dim = true
  · rw [if_pos h]; exact eB_len h
  · rw [if_neg h]; simp
set_option maxRecDepth 100000 in
set_option maxHeartbeats 8000000 in
theorem it_PutSeen (id : Int) (X : List Int) (A : Option Addr) (c : Nat) (p q : Int) (sc : Bool) (dim : Int) (hp : I64 p) (hq : I64 q) (l : List Int) (Al : Option Addr) (cl : Nat) (w : World) (hX : Lies w w.heap.size A X) (hX8 : X.length ≤ 1000000) (hXc : X.length ≤ c) (hA : LiesY w w.heap.size Al l) (hAc : Al = none → cl = 0) (hl : l.length ≤ 1000) :
    Calls Tryz.prog 13 #[.slice Al l.length cl, .agg #[.int .i64 id, .slice A X.length c, .int .i64 p, .int .i64 q, .bool sc], .int .i64 dim] w (GivesY (l ++ eW id X p q sc dim) w) := by
  have KP : Hid (∀ W gd, Below w.heap.size w W → Box W gd #[.int .i64 dim] 3 → Calls Tryz.prog 37 #[.slice Al l.length cl, .agg #[.int .i64 id, .slice A X.length c, .int .i64 p, .int .i64 q, .bool sc], .func (.func 70) #[] #[.pointer (some ⟨gd, 0, none⟩)], .func (.func 39) #[] #[]] W (GivesY (l ++ eW id X p q sc dim) W)) := fun W gd hb hd => by
    have hXW : Lies W W.heap.size A X := (hX.below hb).mono hb.size
    exact it_putE id p q sc gd A X.length c (rsB id X p q sc dim) (eB id X p q sc) l Al cl 0 0 W (hA.up hb) hAc hl (fun W' h' => it_rightSeen1 id X A c p q sc dim gd hp hq W' ((hXW.below h').mono h'.size) (by omega) hXc (hd.below h' hd.lt)) (fun hR => by
      obtain ⟨h1, h2, -⟩ := rsB_ok hR
      obtain ⟨d1, d2, d3, d4⟩ := isV_iff.1 h2
      exact ⟨Nat.le_trans (eB_len hR) (by omega), fun W' h' => it_seenBytes id X A c p q sc (by omega) (fun x hx => by have := d4 x hx; unfold I64; omega) (by omega) hp hq W' ((hXW.below h').mono h'.size)⟩)
  have hb1 := (Below.refl w.heap.size w).alloc (Nat.le_refl _) (.cells #[.int .i64 id, .slice A X.length c, .int .i64 p, .int .i64 q, .bool sc] 41)
  have hd := (Below.refl (w.alloc (.cells #[.int .i64 id, .slice A X.length c, .int .i64 p, .int .i64 q, .bool sc] 41)).heap.size (w.alloc (.cells #[.int .i64 id, .slice A X.length c, .int .i64 p, .int .i64 q, .bool sc] 41))).drew
  have HX := Lib.hid (Box.new w #[.int .i64 id, .slice A X.length c, .int .i64 p, .int .i64 q, .bool sc] 41)
  have HB := Lib.hid (hb1.trans (hd.mono hb1.size))
  clear hX hX8 hXc hA hAc hl hp hq hb1 hd
  obtain ⟨x0, x1, x2, x3, x4⟩ := HX.out.five
  obtain ⟨y0, y1, y2, y3, y4⟩ := (show Box (w.alloc (.cells #[.int .i64 id, .slice A X.length c, .int .i64 p, .int .i64 q, .bool sc] 41)).drew w.heap.size _ _ from HX.out).five
  unfold GivesY at KP
  generalize l ++ eW id X p q sc dim = D at *
  generalize l.length = NL at *
  generalize X.length = N at *
  have KS : Hid (∀ W : World, Calls Tryz.prog 38 #[.int .i64 dim] W fun e w' => e = .returned (.func (.func 70) #[] #[.pointer (some ⟨W.heap.size, 0, none⟩)]) ∧ Box w' W.heap.size #[.int .i64 dim] 3 ∧ Below W.heap.size W w') := fun W => (it_rightSeen dim W).mono fun e w' h => ⟨h.1, by rw [h.2]; exact Box.new W _ _, by rw [h.2]; exact (Below.refl _ _).alloc (Nat.le_refl _) _⟩
  have HXD : Hid (Box (w.alloc (.cells #[.int .i64 id, .slice A N c, .int .i64 p, .int .i64 q, .bool sc] 41)).drew w.heap.size #[.int .i64 id, .slice A N c, .int .i64 p, .int .i64 q, .bool sc] 41) := HX.out
  go_enter Tryz.func13, Tryz.ntmps13
  go_upto_region 1 with fail
  generalize w.alloc (.cells #[.int .i64 id, .slice A N c, .int .i64 p, .int .i64 q, .bool sc] 41) = w1 at *
  go_region_with (first | (go_at_call 38; refine Calls.mono (KS.out _) ?_; rintro r w5 ⟨rfl, hbd, h2⟩; have HB5 := Lib.hid (HB.out.trans (h2.mono HB.out.size)); have K := Lib.hid (KP.out w5 _ HB5.out hbd); have HX5 := Lib.hid (HXD.out.below h2 HXD.out.lt); obtain ⟨v0, v1, v2, v3, v4⟩ := HX5.out.five; clear h2 hbd) | (go_at_call 37; refine Calls.mono K.out ?_; rintro r w6 ⟨⟨v6, rfl, g1⟩, g2⟩; have HO6 := Lib.hid (ownY_le g1 HB5.out.size); have HB6 := Lib.hid (HB5.out.trans (g2.mono HB5.out.size)); clear g1 g2))
  all_goals
    go_wp2
    go_ret
    exact ⟨⟨_, rfl, HO6.out⟩, HB6.out⟩
set_option maxRecDepth 100000 in
set_option maxHeartbeats 8000000 in
theorem ref_RightSeen (id : Int) (X : List Int) (A : Option Addr) (c : Nat) (p q : Int) (sc : Bool) (dim : Int) (w : World) (hA : Lies w w.heap.size A X) : Calls Tryz.prog 16 #[.agg #[.int .i64 id, .slice A X.length c, .int .i64 p, .int .i64 q, .bool sc], .int .i64 dim] w fun e w' => e = .returned (.bool (rsB id X p q sc dim)) ∧ Below w.heap.size w w' := by
  have hb1 := (Below.refl w.heap.size w).alloc (Nat.le_refl _) (.cells #[.int .i64 id, .slice A X.length c, .int .i64 p, .int .i64 q, .bool sc] 41)
  have HX := Lib.hid (Box.new w #[.int .i64 id, .slice A X.length c, .int .i64 p, .int .i64 q, .bool sc] 41)
  have HB := Lib.hid hb1
  have KV := Lib.hid (ref_is A X c w.heap.size dim (w.alloc (.cells #[.int .i64 id, .slice A X.length c, .int .i64 p, .int .i64 q, .bool sc] 41)) (hA.below hb1))
  have KS := Lib.hid (fun W => ref13_is p q W)
  obtain ⟨x0, x1, x2, x3, x4⟩ := HX.out.five
  have HR1 : Hid (id < 1 ∨ 1099511627776 < id → rsB id X p q sc dim = false) := fun h => by
    unfold rsB inB
    rw [show ([id].all fun x => decide (1 ≤ x ∧ x ≤ 1099511627776)) = false from by simp; omega]
    rfl
  have HR2 : Hid (isV X dim = false → rsB id X p q sc dim = false) := fun h => by unfold rsB; rw [h, Bool.and_false]; rfl
  have HR3 : Hid (1 ≤ id → id ≤ 1099511627776 → isV X dim = true → rsB id X p q sc dim = (if sc = true then scoB p q else decide (p = 0) && decide (q = 0))) := fun h1 h2 h3 => by
    unfold rsB inB
    rw [h3, show ([id].all fun x => decide (1 ≤ x ∧ x ≤ 1099511627776)) = true from by simp; omega]
    rfl
  clear hA hb1
  generalize rsB id X p q sc dim = R at *
  generalize isV X dim = iv at *
  generalize X.length = N at *
  by_cases h1 : id < 1
  · obtain rfl := HR1.out (.inl h1)
    clear KV KS HR1 HR2 HR3
    cases sc
    all_goals
      go_enter Tryz.func16, Tryz.ntmps16
      go_wp2
      go_ret
      exact ⟨rfl, HB.out⟩
  by_cases h2 : 1099511627776 < id
  · obtain rfl := HR1.out (.inr h2)
    clear KV KS HR1 HR2 HR3
    cases sc
    all_goals
      go_enter Tryz.func16, Tryz.ntmps16
      go_wp2
      go_ret
      exact ⟨rfl, HB.out⟩
  cases iv
  · obtain rfl := HR2.out rfl
    clear KS HR1 HR2 HR3
    cases sc
    all_goals
      go_enter Tryz.func16, Tryz.ntmps16
      go_wp2_with fail
      refine (KV.out).mono ?_
      rintro e w1 ⟨rfl, rfl⟩
      go_wp2
      go_ret
      exact ⟨rfl, HB.out⟩
  have HR := Lib.hid (HR3.out (by omega) (by omega) rfl)
  clear HR1 HR2 HR3
  cases sc
  · have HR : Hid (R = (decide (p = 0) && decide (q = 0))) := HR.out
    clear KS
    by_cases hp0 : p = 0
    · by_cases hq0 : q = 0
      · subst hp0 hq0
        have hR : R = true := HR.out
        subst hR
        go_enter Tryz.func16, Tryz.ntmps16
        go_wp2_with fail
        refine (KV.out).mono ?_
        rintro e w1 ⟨rfl, rfl⟩
        go_wp2
        go_ret
        exact ⟨rfl, HB.out⟩
      · subst hp0
        have hR : R = false := by rw [HR.out, decide_eq_false hq0]; rfl
        subst hR
        go_enter Tryz.func16, Tryz.ntmps16
        go_wp2_with fail
        refine (KV.out).mono ?_
        rintro e w1 ⟨rfl, rfl⟩
        go_wp2
        all_goals
          go_ret
          refine ⟨?_, HB.out⟩
          first | rfl | simp_all
    · have hR : R = false := by rw [HR.out, decide_eq_false hp0]; rfl
      subst hR
      go_enter Tryz.func16, Tryz.ntmps16
      go_wp2_with fail
      refine (KV.out).mono ?_
      rintro e w1 ⟨rfl, rfl⟩
      have hpb : (p == 0) = false := by simpa using hp0
      go_wp2
      all_goals
        go_ret
        refine ⟨?_, HB.out⟩
        first | rfl | simp_all
  · obtain rfl : R = scoB p q := HR.out
    generalize scoB p q = sb at *
    go_enter Tryz.func16, Tryz.ntmps16
    go_wp2_with fail
    refine (KV.out).mono ?_
    rintro e w1 ⟨rfl, rfl⟩
    go_wp2_with fail
    refine (KS.out _).mono ?_
    rintro e w2 ⟨rfl, b2⟩
    have HB2 := Lib.hid (HB.out.trans (b2.mono HB.out.size))
    clear b2
    go_wp2
    go_ret
    exact ⟨rfl, HB2.out⟩
end Go.Proofs.YtpoemflclbhekaaGreat
