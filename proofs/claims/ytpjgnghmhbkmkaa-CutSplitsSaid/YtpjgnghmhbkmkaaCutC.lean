import Derived.Test.YtpjgnghmhbkmkaaCutB

/-! Package cut: Draw. -/
namespace Go.Proofs.Ytpjgnghmhbkmkaa
open Go.RowKit
set_option linter.unusedVariables false
set_option linter.unusedSimpArgs false

theorem colB {R : List Row} (h0 : 0 < R.length) (j : Nat) : (∃ i, i < R.length ∧ colL R j = (R.getD i row0).l.getD j 0) ∧ ∃ i, i < R.length ∧ colH R j = (R.getD i row0).l.getD j 0 := by
  have key : ∀ x : Int, x = (R.getD 0 row0).l.getD j 0 ∨ x ∈ R.tail.map (fun r => r.l.getD j 0) → ∃ i, i < R.length ∧ x = (R.getD i row0).l.getD j 0 := by
    intro x hx
    rcases hx with e | e
    · exact ⟨0, h0, e⟩
    · obtain ⟨r, hr, rfl⟩ := List.mem_map.1 e
      obtain ⟨i, hi, rfl⟩ := List.mem_iff_getElem.1 (List.mem_of_mem_tail hr)
      exact ⟨i, hi, by simp [List.getD, hi]⟩
  exact ⟨key _ (loL_mem _ _), key _ (hiL_mem _ _)⟩
theorem dotI_unit (d k : Nat) (hk : k < d) (v : List Int) : ∀ n, n ≤ d → dotI (unitC d k) v n = if k < n then v.getD k 0 else 0
  | 0, _ => by simp [dotI]
  | n + 1, h => by
    rw [dotI, dotI_unit d k hk v n (by omega), unitC_get d hk]
    by_cases g : n = k
    · subst g
      rw [if_neg (Nat.lt_irrefl _), if_pos rfl, if_pos (by omega)]; omega
    · rw [if_neg g]
      by_cases g2 : k < n
      · rw [if_pos g2, if_pos (by omega)]; omega
      · rw [if_neg g2, if_neg (by omega)]; omega
theorem dotN_unit {d k : Nat} {v : List Int} (hk : k < d) (h : dotE (unitC d k) v = true) : dotN (unitC d k) v = v.getD k 0 := by
  unfold dotN
  rw [if_pos h, unitC_len, dotI_unit d k hk v d (Nat.le_refl _), if_pos hk]
/-- along an open column not all products are equal -/
theorem unit_open {R : List Row} (h : boxE R (dimR R) = true) {j : Nat} (hj : j < dimR R) (ho : (boxLo R (dimR R)).getD j 0 < (boxHi R (dimR R)).getD j 0) :
    reachE (unitC (dimR R) j) R = true ∧ reachLo (unitC (dimR R) j) R < reachHi (unitC (dimR R) j) R := by
  obtain ⟨d1, d8, h0⟩ := box_dim h
  have hE := reach_of h (unitC_parts d1 d8 hj)
  refine ⟨hE, ?_⟩
  obtain ⟨⟨i, hi, e1⟩, i2, hi2, e2⟩ := colB h0 j
  have hlo : (boxLo R (dimR R)).getD j 0 = colL R j := by
    unfold boxLo
    rw [if_pos h, List.getD_eq_getElem?_getD, List.getElem?_map, List.getElem?_range (by omega)]; rfl
  have hhi : (boxHi R (dimR R)).getD j 0 = colH R j := by
    unfold boxHi
    rw [if_pos h, List.getD_eq_getElem?_getD, List.getElem?_map, List.getElem?_range (by omega)]; rfl
  have g1 := reachLo_le hE hi
  have g2 := le_reachHi hE hi2
  rw [dotN_unit hj ((reachE_iff.1 hE).2 _ hi)] at g1
  rw [dotN_unit hj ((reachE_iff.1 hE).2 _ hi2)] at g2
  omega
theorem colD_ok {o l : List Int} {d : Nat} {a t : Int} (h : (colD o d l a t).2.2 = 0) : (bnd l a o.length t).2.2 = 0 ∧ colD o d l a t = (unitC d (o.getD (bnd l a o.length t).1.toNat 0).toNat, (bnd l a o.length t).2.1, 0) := by
  unfold colD at h ⊢
  by_cases g : (bnd l a o.length t).2.2 = 0
  · rw [if_pos g]; exact ⟨g, rfl⟩
  · rw [if_neg g] at h; exact absurd h g
theorem colD_err {o l : List Int} {d : Nat} {a t : Int} (h : ¬ (colD o d l a t).2.2 = 0) : colD o d l a t = ([], 0, (colD o d l a t).2.2) := by
  unfold colD at h ⊢
  by_cases g : (bnd l a o.length t).2.2 = 0
  · rw [if_pos g] at h; exact absurd rfl h
  · rw [if_neg g]
/-- what a column that is drawn is like -/
theorem col_of {R : List Row} {l : List Int} {a t : Int} (h : boxE R (dimR R) = true) (ho : opn R ≠ []) (hc : (colD (opn R) (dimR R) l a t).2.2 = 0) :
    ∃ j : Nat, j < dimR R ∧ (boxLo R (dimR R)).getD j 0 < (boxHi R (dimR R)).getD j 0 ∧ (colD (opn R) (dimR R) l a t).1 = unitC (dimR R) j ∧ a < (colD (opn R) (dimR R) l a t).2.1 ∧ (colD (opn R) (dimR R) l a t).2.1 ≤ l.length ∧ (colD (opn R) (dimR R) l a t).2.1 ≤ a + t := by
  obtain ⟨hb, he⟩ := colD_ok hc
  have hp := bnd_pos hb
  have hol : 0 < (opn R).length := List.length_pos_iff.2 ho
  have hlt := bnd_lt (l := l) (a := a) (n := (opn R).length) (t := t) (by omega)
  rw [he]
  obtain ⟨j, h1, h2, h3⟩ := opn_mem h (mem_getD (l := opn R) (k := (bnd l a (opn R).length t).1.toNat) (by omega))
  refine ⟨j, h1, h3, ?_, hp.1, hp.2.1, hp.2.2⟩
  simp only
  rw [h2]; rfl
theorem Lies.mono2 {w : World} {B B' : Nat} {A : Option Addr} {l : List Int} (h : Lies w B A l) (_ : B' ≤ B) : Lies w B A l := h
theorem cof_at {l : List Int} {a d t : Int} (hl : (l.length : Int) ≤ 9223372036854775807) (ha : 0 ≤ a) (h : (cof l a d t).2.2 = 0) : 0 ≤ (cof l a d t).2.1 ∧ (cof l a d t).2.1 ≤ 9223372036854775807 := by
  have := cof_pos h; omega

theorem box_off {w : World} {g : Nat} {u v : Value} {A : Option Addr} {l : List Int} {B : Nat} (h : Lies w B A l) (hn : ∀ ad, A = some ad → g < ad.block) : Lies ((w.setCell ⟨g, 0, none⟩ u).setCell ⟨g, 1, none⟩ v) B A l := fun h0 => by
  obtain ⟨ad, e, hb, hc⟩ := h h0
  refine ⟨ad, e, hb, fun j hj => ?_⟩
  have hne := hn ad e
  rw [World.cell?_setCell_other _ ⟨g, 1, none⟩ (ad.add j) _ (fun e => by have := congrArg Addr.block e; rw [add_block] at this; simp only at this; omega), World.cell?_setCell_other _ ⟨g, 0, none⟩ (ad.add j) _ (fun e => by have := congrArg Addr.block e; rw [add_block] at this; simp only at this; omega)]
  exact hc j hj
set_option maxHeartbeats 4000000 in
theorem cut_Draw (Ar A : Option Addr) (R : List Row) (l : List Int) (cr c : Nat) (k a t : Int) (w : World) (hr : LiesR w w.heap.size Ar R) (hR : OkR R) (hA : LiesU w w.heap.size A l) (hu : ∀ x ∈ l, U64 x) (hl : (l.length : Int) ≤ 9223372036854775807)
    (hat : I64 a) (hlr : (R.length : Int) ≤ 9223372036854775807) (hcr : R.length ≤ cr) :
    Calls Try.prog 40 #[.int .i64 k, .slice Ar R.length cr, .slice A l.length c, .int .i64 a, .int .i64 t] w (GivesD (drw k R l a t) w) := by
  have KM := Lib.hid (cut_may k a t)
  have HX := Lib.hid ((Kpc.start w).alloc #[.slice none 0 0, .int .i64 0] 40)
  have KO := Lib.hid (fun W (h : Below w.heap.size w W) => cut_open Ar R cr W ((hr.below h).mono h.size) hR hlr hcr)
  unfold GivesO at KO
  by_cases hask : (k = 1 ∨ k = 2) ∧ 0 ≤ a ∧ 1 ≤ t ∧ t ≤ 64
  · rw [decide_eq_true hask] at KM
    by_cases hE : boxE R (dimR R) = true
    · have hO : opnD R = opn R := by unfold opnD; rw [if_pos hE]
      have hD : dimD R = dimR R := by unfold dimD; rw [if_pos hE]
      have hC : boxC R (dimR R) = 0 := by unfold boxC; rw [if_pos hE]
      rw [hO, hD, hC] at KO
      by_cases hop : opn R = []
      · have HV : Hid (drw k R l a t = ([], 0, a, false, 0)) := by
          show _ = _
          unfold drw; rw [if_pos (show AskD _ _ _ from hask), if_pos hE, if_pos hop]
        rw [hop] at KO
        generalize drw k R l a t = Z at *
        generalize dimR R = D at *
        clear hr hA hR hu hop hE hO hD hC
        go_enter Try.func40, Try.ntmps40
        go_wp2_with fail
        refine (KM.out _).mono ?_
        rintro e1 w1 ⟨rfl, rfl⟩
        go_wp2_with fail
        refine (KO.out _ HX.out.2.1).mono ?_
        rintro e1 w1 ⟨A1, c1, rfl, q1, q2, q3, b1⟩
        have J1 := Lib.hid (HX.out.below b1)
        obtain ⟨z0, z1, g0, g1⟩ := J1.out.head.two
        clear q3 b1
        go_wp2
        obtain ⟨⟨k0, k1⟩, bz⟩ := Kpc.set2 J1.out (Nat.le_refl _) (.slice none 0 0) (.int .i64 0)
        refine bodyPost_ret (v := .tuple #[.agg #[.slice none 0 0, .int .i64 0], .int .i64 a, .bool false, .int .i64 0]) ?_ rfl ?_
        · simp [results, Try.results40, go_sem, k0, k1]
        · rw [HV.out]
          exact givesD_no (by first | exact bz | exact HX.out.2.1)
      · have hd := box_dim hE
        have hol : 0 < (opn R).length := List.length_pos_iff.2 hop
        have hol8 := opn_len hE
        have hne0 : (((opn R).length : Int) == 0) = false := by rw [beq_eq_false_iff_ne]; omega
        obtain ⟨T, rfl⟩ : ∃ T : Nat, t = T := ⟨t.toNat, by omega⟩
        have HCO := Lib.hid (fun p (h : (colD (opn R) (dimR R) l p T).2.2 = 0) => col_of hE hop h)
        have HCX := Lib.hid (fun p (h : ¬ (colD (opn R) (dimR R) l p T).2.2 = 0) => colD_err h)
        have KC := Lib.hid (fun W Ao co p (h : Below w.heap.size w W) (hl1 : Lies W W.heap.size Ao (opn R)) (hp : I64 p) => cut_column Ao A (opn R) l co c (dimR R) p T W hl1 ((hA.below h).mono h.size) hu hl hp hd.2.1 hol8 (fun x hx => by obtain ⟨j, h1, h2, _⟩ := opn_mem hE hx; omega) hol)
        have KB := Lib.hid (fun W Ac cc co p (h : Below w.heap.size w W) (hl1 : Lies W W.heap.size Ac co) (hp : I64 p) (h8 : co.length ≤ 1000) (hcc : co.length ≤ cc) => cut_between Ac Ar A co R l cc cr c p T W hl1 ((hr.below h).mono h.size) hR ((hA.below h).mono h.size) hu hl hp h8 hcc hlr hcr)
        unfold GivesC at KC
        unfold GivesB at KB
        have HAX : Hid (∀ p, axs (opn R) (dimR R) R l p T = if (colD (opn R) (dimR R) l p T).2.2 = 0 then btw (colD (opn R) (dimR R) l p T).1 R l (colD (opn R) (dimR R) l p T).2.1 T else noD (colD (opn R) (dimR R) l p T).2.2) := fun p => rfl
        by_cases hk : k = 1
        · subst hk
          have HV : Hid (drw 1 R l a T = axs (opn R) (dimR R) R l a T) := by
            show _ = _
            unfold drw; rw [if_pos (show AskD _ _ _ from hask), if_pos hE, if_neg hop, if_neg (by decide)]
          generalize drw 1 R l a T = Z at *
          clear hr hA hR hu hop hE hO hD hC
          go_enter Try.func40, Try.ntmps40
          go_wp2_with fail
          refine (KM.out _).mono ?_
          rintro e1 w1 ⟨rfl, rfl⟩
          go_wp2_with fail
          refine (KO.out _ HX.out.2.1).mono ?_
          rintro e1 w1 ⟨A1, c1, rfl, q1, q2, q3, b1⟩
          have J1 := Lib.hid (HX.out.below b1)
          have H1 := Lib.hid q3
          clear q3 b1
          have KCC := Lib.hid (KC.out w1 A1 c1 a J1.out.2.1 H1.out hat)
          have HA0 := Lib.hid (HV.out.trans (HAX.out a))
          have HO0 := Lib.hid (HCO.out a)
          have HX0 := Lib.hid (HCX.out a)
          generalize colD (opn R) (dimR R) l a T = G at *
          obtain ⟨ds, dp, de⟩ := G
          simp only at HA0 HO0 HX0 KCC
          go_wp2_with fail
          refine KCC.out.mono ?_
          rintro e1 w2 ⟨A2, c2, rfl, s1, s2, s3, s4, b2⟩
          have J2 := Lib.hid (J1.out.below b2)
          have H2 := Lib.hid s3
          have hA2 : ∀ ad, A2 = some ad → w.heap.size < ad.block := fun ad e => Nat.lt_of_lt_of_le J1.out.head.lt (s4 ad e)
          have HNB2 := Lib.hid hA2
          obtain ⟨z0, z1, g0, g1⟩ := J2.out.head.two
          clear s3 s4 b2 hA2
          by_cases hde : de = 0
          · subst hde
            obtain ⟨j, t1, t2, t3, t4, t5, t6⟩ := HO0.out rfl
            have h8d : ds.length ≤ 1000 := by rw [t3, unitC_len]; omega
            have hpd : I64 dp := by have := hask.2.1; skip; unfold I64; omega
            have hpdc : c2 ≤ 9223372036854775807 := by unfold maxLen at s2; omega
            have HZ0 : Hid (Z = btw ds R l dp T) := HA0.out.trans (if_pos rfl)
            clear t3
            have KBB := Lib.hid (KB.out w2 A2 c2 ds dp J2.out.2.1 H2.out hpd h8d s1)
            have HZB := Lib.hid HZ0.out
            generalize btw ds R l dp T = Y at *
            obtain ⟨yc, yn, yp, yb, ye⟩ := Y
            simp only at KBB
            go_wp2_with fail
            refine KBB.out.mono ?_
            rintro e1 w3 ⟨b3, hh⟩
            have J3 := Lib.hid (J2.out.below b3)
            have HL3 := Lib.hid ((H2.out.below b3).mono b3.size)
            obtain ⟨x0, x1, f0, f1⟩ := J3.out.head.two
            clear b3
            rcases hh with ⟨hy, rfl⟩ | ⟨hy, hne, rfl⟩
            · have HY := Lib.hid hy
              clear hy
              go_wp2
              obtain ⟨⟨k0, k1⟩, bz⟩ := Kpc.set2 J3.out (Nat.le_refl _) (.slice A2 ds.length c2) (.int .i64 yn)
              refine bodyPost_ret (v := .tuple #[.agg #[.slice A2 ds.length c2, .int .i64 yn], .int .i64 yp, .bool true, .int .i64 0]) ?_ rfl ?_
              · simp [results, Try.results40, go_sem, k0, k1]
              · rw [HZB.out, HY.out]
                exact ⟨A2, c2, rfl, s1, hpdc, (box_off HL3.out HNB2.out).mono (by simp), fun ad e => Nat.le_of_lt (HNB2.out ad e), bz⟩
            · have HY := Lib.hid hy
              clear hy
              go_wp2
              obtain ⟨⟨k0, k1⟩, bz⟩ := Kpc.set2 J3.out (Nat.le_refl _) (.slice none 0 0) (.int .i64 0)
              refine bodyPost_ret (v := .tuple #[.agg #[.slice none 0 0, .int .i64 0], .int .i64 0, .bool false, .int .i64 ye]) ?_ rfl ?_
              · simp [results, Try.results40, go_sem, k0, k1]
              · rw [HZB.out, HY.out]
                exact givesD_no bz
          · have hne : (de != 0) = true := by simpa using hde
            have HZ0 : Hid (Z = noD de) := HA0.out.trans (if_neg hde)
            go_wp2
            obtain ⟨⟨k0, k1⟩, bz⟩ := Kpc.set2 J2.out (Nat.le_refl _) (.slice none 0 0) (.int .i64 0)
            refine bodyPost_ret (v := .tuple #[.agg #[.slice none 0 0, .int .i64 0], .int .i64 0, .bool false, .int .i64 de]) ?_ rfl ?_
            · simp [results, Try.results40, go_sem, k0, k1]
            · rw [HZ0.out]
              exact givesD_no (by first | exact bz | exact HX.out.2.1)
        · obtain rfl : k = 2 := by omega
          have KP := Lib.hid (fun W (h : Below w.heap.size w W) => pick_Coefs_go A l c (dimR R) T a W ((hA.below h).mono h.size) hu hl hd.1 hd.2.1 hask.2.1 (by unfold I64 at hat; omega) (by omega) (by omega))
          unfold GivesC at KP
          have hcy : cof l a (dimR R) T = trs l (dimR R) T T a := by rw [cof_yes (by omega)]; simp
          have HCP := Lib.hid (fun (h : (cof l a (dimR R) T).2.2 = 0) => cof_pos h)
          have HCA := Lib.hid (fun (h : (cof l a (dimR R) T).2.2 = 0) => cof_at hl hask.2.1 h)
          have HRE := Lib.hid (fun co (h : partsV co (dimR R) = true) => reach_of hE h)
          have HV : Hid (drw 2 R l a T = pln R l a T) := by
            show _ = _
            unfold drw; rw [if_pos (show AskD _ _ _ from hask), if_pos hE, if_neg hop, if_pos rfl]
          have HPL : Hid (pln R l a T = if (cof l a (dimR R) T).2.2 = 0 then (if reachLo (cof l a (dimR R) T).1 R < reachHi (cof l a (dimR R) T).1 R then btw (cof l a (dimR R) T).1 R l (cof l a (dimR R) T).2.1 T else axs (opn R) (dimR R) R l (cof l a (dimR R) T).2.1 T) else noD (cof l a (dimR R) T).2.2) := rfl
          rw [← hcy] at KP
          have KR := Lib.hid (fun W Ac cc co (h : Below w.heap.size w W) (hl1 : Lies W W.heap.size Ac co) (h8 : co.length ≤ 1000) (hcc : co.length ≤ cc) => vec_Reach Ac Ar co R cc cr W hl1 ((hr.below h).mono h.size) hR (by omega) hlr hcc hcr)
          generalize drw 2 R l a T = Z at *
          generalize pln R l a T = Z2 at *
          generalize cof l a (dimR R) T = F at *
          obtain ⟨cs, p, e⟩ := F
          simp only at HCP HCA HPL
          clear hr hA hR hu hop hE hO hD hC hcy
          go_enter Try.func40, Try.ntmps40
          go_wp2_with fail
          refine (KM.out _).mono ?_
          rintro e1 w1 ⟨rfl, rfl⟩
          go_wp2_with fail
          refine (KO.out _ HX.out.2.1).mono ?_
          rintro e1 w1 ⟨A1, c1, rfl, q1, q2, q3, b1⟩
          have J1 := Lib.hid (HX.out.below b1)
          have H1 := Lib.hid q3
          clear q3 b1
          go_wp2_with fail
          refine (KP.out _ J1.out.2.1).mono ?_
          rintro e1 w2 ⟨A2, c2, rfl, r1, r2, r3, r4, b2⟩
          have J2 := Lib.hid (J1.out.below b2)
          have H1b := Lib.hid ((H1.out.below b2).mono b2.size)
          try simp only at r1 r3
          have H2 := Lib.hid r3
          have HN2 := Lib.hid (r4.mono J1.out.2.2)
          have hA2 : ∀ ad, A2 = some ad → w.heap.size < ad.block := fun ad e => Nat.lt_of_lt_of_le J1.out.head.lt (r4 ad e)
          have HNB := Lib.hid hA2
          obtain ⟨z0, z1, g0, g1⟩ := J2.out.head.two
          clear r3 r4 b2 hA2
          by_cases he : e = 0
          · subst he
            obtain ⟨p1, p2, p3, p4⟩ := HCP.out rfl
            have p5 := HCA.out rfl
            obtain ⟨v1, v2, v3, _⟩ := partsV_iff.1 p4
            have hRE := HRE.out cs p4
            have hR0 := reachC_0 hRE
            have h8 : cs.length ≤ 1000 := by omega
            have hbd := reach_bd hRE
            have KRR := Lib.hid (KR.out w2 A2 c2 cs J2.out.2.1 H2.out h8 r1)
            rw [hR0] at KRR
            have HZ2 : Hid (Z2 = if reachLo cs R < reachHi cs R then btw cs R l p T else axs (opn R) (dimR R) R l p T) := HPL.out.trans (if_pos rfl)
            generalize reachLo cs R = lo at *
            generalize reachHi cs R = hi at *
            clear hRE hR0
            go_wp2_with fail
            refine KRR.out.mono ?_
            rintro e1 w3 ⟨rfl, b3⟩
            have J3 := Lib.hid (J2.out.below b3)
            have H1c := Lib.hid ((H1b.out.below b3).mono b3.size)
            have H2c := Lib.hid ((H2.out.below b3).mono b3.size)
            obtain ⟨y0, y1, _, _⟩ := J3.out.head.two
            clear b3
            by_cases hlt : lo < hi
            · have HZ3 : Hid (Z = btw cs R l p T) := HV.out.trans (HZ2.out.trans (if_pos hlt))
              have hp3 : I64 p := by unfold I64; omega
              have hp3c : c2 ≤ 9223372036854775807 := by unfold maxLen at r2; omega
              have KBB := Lib.hid (KB.out w3 A2 c2 cs p J3.out.2.1 H2c.out hp3 h8 r1)
              have HZB := Lib.hid HZ3.out
              generalize btw cs R l p T = Y at *
              obtain ⟨yc, yn, yp, yb, ye⟩ := Y
              simp only at KBB
              go_wp2_with fail
              refine KBB.out.mono ?_
              rintro e1 w4 ⟨b4, hh⟩
              have J4 := Lib.hid (J3.out.below b4)
              have HL4 := Lib.hid ((H2c.out.below b4).mono b4.size)
              obtain ⟨x0, x1, f0, f1⟩ := J4.out.head.two
              clear b4
              rcases hh with ⟨hy, rfl⟩ | ⟨hy, hne, rfl⟩
              · have HY := Lib.hid hy
                clear hy
                go_wp2
                obtain ⟨⟨k0, k1⟩, bz⟩ := Kpc.set2 J4.out (Nat.le_refl _) (.slice A2 cs.length c2) (.int .i64 yn)
                refine bodyPost_ret (v := .tuple #[.agg #[.slice A2 cs.length c2, .int .i64 yn], .int .i64 yp, .bool true, .int .i64 0]) ?_ rfl ?_
                · simp [results, Try.results40, go_sem, k0, k1]
                · rw [HZB.out, HY.out]
                  exact ⟨A2, c2, rfl, r1, hp3c, (box_off HL4.out HNB.out).mono (by simp), fun ad e => Nat.le_of_lt (HNB.out ad e), bz⟩
              · have HY := Lib.hid hy
                clear hy
                go_wp2
                obtain ⟨⟨k0, k1⟩, bz⟩ := Kpc.set2 J4.out (Nat.le_refl _) (.slice none 0 0) (.int .i64 0)
                refine bodyPost_ret (v := .tuple #[.agg #[.slice none 0 0, .int .i64 0], .int .i64 0, .bool false, .int .i64 ye]) ?_ rfl ?_
                · simp [results, Try.results40, go_sem, k0, k1]
                · rw [HZB.out, HY.out]
                  exact givesD_no bz
            · have HV2 : Hid (Z = axs (opn R) (dimR R) R l p T) := HV.out.trans (HZ2.out.trans (if_neg hlt))
              have hp3 : I64 p := by unfold I64; omega
              have KCC := Lib.hid (KC.out w3 A1 c1 p J3.out.2.1 H1c.out hp3)
              have HA0 := Lib.hid (HV2.out.trans (HAX.out p))
              have HO0 := Lib.hid (HCO.out p)
              have HX0 := Lib.hid (HCX.out p)
              generalize colD (opn R) (dimR R) l p T = G at *
              obtain ⟨ds, dp, de⟩ := G
              simp only at HA0 HO0 HX0 KCC
              go_wp2_with fail
              refine KCC.out.mono ?_
              rintro e1 w4 ⟨A4, c4, rfl, s1, s2, s3, s4, b4⟩
              have J4 := Lib.hid (J3.out.below b4)
              have H4 := Lib.hid s3
              have hA4 : ∀ ad, A4 = some ad → w.heap.size < ad.block := fun ad e => Nat.lt_of_lt_of_le J3.out.head.lt (s4 ad e)
              have HNB4 := Lib.hid hA4
              obtain ⟨z0, z1, g0, g1⟩ := J4.out.head.two
              clear s3 s4 b4 hA4
              by_cases hde : de = 0
              · subst hde
                obtain ⟨j, t1, t2, t3, t4, t5, t6⟩ := HO0.out rfl
                have h8d : ds.length ≤ 1000 := by rw [t3, unitC_len]; omega
                have hpd : I64 dp := by have := hask.2.1; have := p5.1; unfold I64; omega
                have hpdc : c4 ≤ 9223372036854775807 := by unfold maxLen at s2; omega
                have HZ0 : Hid (Z = btw ds R l dp T) := HA0.out.trans (if_pos rfl)
                clear t3
                have KBB := Lib.hid (KB.out w4 A4 c4 ds dp J4.out.2.1 H4.out hpd h8d s1)
                have HZB := Lib.hid HZ0.out
                generalize btw ds R l dp T = Y at *
                obtain ⟨yc, yn, yp, yb, ye⟩ := Y
                simp only at KBB
                go_wp2_with fail
                refine KBB.out.mono ?_
                rintro e1 w5 ⟨b5, hh⟩
                have J5 := Lib.hid (J4.out.below b5)
                have HL5 := Lib.hid ((H4.out.below b5).mono b5.size)
                obtain ⟨x0, x1, f0, f1⟩ := J5.out.head.two
                clear b5
                rcases hh with ⟨hy, rfl⟩ | ⟨hy, hne, rfl⟩
                · have HY := Lib.hid hy
                  clear hy
                  go_wp2
                  obtain ⟨⟨k0, k1⟩, bz⟩ := Kpc.set2 J5.out (Nat.le_refl _) (.slice A4 ds.length c4) (.int .i64 yn)
                  refine bodyPost_ret (v := .tuple #[.agg #[.slice A4 ds.length c4, .int .i64 yn], .int .i64 yp, .bool true, .int .i64 0]) ?_ rfl ?_
                  · simp [results, Try.results40, go_sem, k0, k1]
                  · rw [HZB.out, HY.out]
                    exact ⟨A4, c4, rfl, s1, hpdc, (box_off HL5.out HNB4.out).mono (by simp), fun ad e => Nat.le_of_lt (HNB4.out ad e), bz⟩
                · have HY := Lib.hid hy
                  clear hy
                  go_wp2
                  obtain ⟨⟨k0, k1⟩, bz⟩ := Kpc.set2 J5.out (Nat.le_refl _) (.slice none 0 0) (.int .i64 0)
                  refine bodyPost_ret (v := .tuple #[.agg #[.slice none 0 0, .int .i64 0], .int .i64 0, .bool false, .int .i64 ye]) ?_ rfl ?_
                  · simp [results, Try.results40, go_sem, k0, k1]
                  · rw [HZB.out, HY.out]
                    exact givesD_no bz
              · have hne : (de != 0) = true := by simpa using hde
                have HZ0 : Hid (Z = noD de) := HA0.out.trans (if_neg hde)
                go_wp2
                obtain ⟨⟨k0, k1⟩, bz⟩ := Kpc.set2 J4.out (Nat.le_refl _) (.slice none 0 0) (.int .i64 0)
                refine bodyPost_ret (v := .tuple #[.agg #[.slice none 0 0, .int .i64 0], .int .i64 0, .bool false, .int .i64 de]) ?_ rfl ?_
                · simp [results, Try.results40, go_sem, k0, k1]
                · rw [HZ0.out]
                  exact givesD_no (by first | exact bz | exact HX.out.2.1)
          · have hne : (e != 0) = true := by simpa using he
            have HZ2 : Hid (Z = noD e) := HV.out.trans (HPL.out.trans (if_neg he))
            go_wp2
            obtain ⟨⟨k0, k1⟩, bz⟩ := Kpc.set2 J2.out (Nat.le_refl _) (.slice none 0 0) (.int .i64 0)
            refine bodyPost_ret (v := .tuple #[.agg #[.slice none 0 0, .int .i64 0], .int .i64 0, .bool false, .int .i64 e]) ?_ rfl ?_
            · simp [results, Try.results40, go_sem, k0, k1]
            · rw [HZ2.out]
              exact givesD_no (by first | exact bz | exact HX.out.2.1)
    · have hO : opnD R = [] := by unfold opnD; rw [if_neg hE]
      have hD : dimD R = 0 := by unfold dimD; rw [if_neg hE]
      have hC : boxC R (dimR R) = 80 := by unfold boxC; rw [if_neg hE]
      rw [hO, hD, hC] at KO
      have HV : Hid (drw k R l a t = noD 80) := by
        show _ = _
        unfold drw; rw [if_pos (show AskD _ _ _ from hask), if_neg hE]
      generalize drw k R l a t = Z at *
      clear hr hA hR hu hE hO hD hC
      go_enter Try.func40, Try.ntmps40
      go_wp2_with fail
      refine (KM.out _).mono ?_
      rintro e1 w1 ⟨rfl, rfl⟩
      go_wp2_with fail
      refine (KO.out _ HX.out.2.1).mono ?_
      rintro e1 w1 ⟨A1, c1, rfl, q1, q2, q3, b1⟩
      have J1 := Lib.hid (HX.out.below b1)
      obtain ⟨z0, z1, g0, g1⟩ := J1.out.head.two
      clear q3 b1
      go_wp2
      obtain ⟨⟨k0, k1⟩, bz⟩ := Kpc.set2 J1.out (Nat.le_refl _) (.slice none 0 0) (.int .i64 0)
      refine bodyPost_ret (v := .tuple #[.agg #[.slice none 0 0, .int .i64 0], .int .i64 0, .bool false, .int .i64 80]) ?_ rfl ?_
      · simp [results, Try.results40, go_sem, k0, k1]
      · rw [HV.out]
        exact givesD_no (by first | exact bz | exact HX.out.2.1)
  · rw [decide_eq_false hask] at KM
    have HV : Hid (drw k R l a t = noD 1) := by
      show _ = _
      unfold drw; rw [if_neg (show ¬ AskD _ _ _ from hask)]
    generalize drw k R l a t = Z at *
    clear hr hA hR hu
    obtain ⟨z0, z1, g0, g1⟩ := HX.out.head.two
    go_enter Try.func40, Try.ntmps40
    go_wp2_with fail
    refine (KM.out _).mono ?_
    rintro e1 w1 ⟨rfl, rfl⟩
    go_wp2
    obtain ⟨⟨k0, k1⟩, bz⟩ := Kpc.set2 HX.out (Nat.le_refl _) (.slice none 0 0) (.int .i64 0)
    refine bodyPost_ret (v := .tuple #[.agg #[.slice none 0 0, .int .i64 0], .int .i64 0, .bool false, .int .i64 1]) ?_ rfl ?_
    · simp [results, Try.results40, go_sem, k0, k1]
    · rw [HV.out]
      exact givesD_no (by first | exact bz | exact HX.out.2.1)
end Go.Proofs.Ytpjgnghmhbkmkaa
