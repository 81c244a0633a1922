/- Layer 22 (item): ways to work written, in the code: confBytes, put, PutConf. -/
import Derived.Test.YtpoemflclbhekaaItmLv
import Derived.Test.YtpoemflclbhekaaItmCd
namespace Go.Proofs.Ytpoemflclbhekaa
open Go.RowKit
set_option linter.unusedVariables false
set_option linter.unusedSimpArgs false

theorem nB_len : ∀ (l : List Int), (∀ x ∈ l, 0 ≤ x ∧ x < 9223372036854775808) → (nB l).length ≤ 9 * l.length
  | [], _ => by simp [nB]
  | x :: l, h => by
    have h1 := nB_len l (fun y hy => h y (List.mem_cons_of_mem _ hy))
    have h2 := (uB_len (n := x.toNat) (by have := h x (by simp); omega)).2
    unfold nB at h1 ⊢
    rw [List.flatMap_cons, List.length_append, List.length_cons]
    omega
theorem okC_bd {l : List Int} (hl : l.length = 11) (h : okCf l = true) : ∀ x ∈ l, 0 ≤ x ∧ x < 9223372036854775808 := by
  obtain ⟨c0, c1, c2, c3, c4, c5, c6, c7, c8, c9, c10, rfl⟩ := eleven_of hl
  have h := of_decide_eq_true h
  unfold CfOk at h
  simp only [List.getD_cons_zero, List.getD_cons_succ] at h
  intro x hx
  simp only [List.mem_cons, List.not_mem_nil, or_false] at hx
  rcases hx with rfl | rfl | rfl | rfl | rfl | rfl | rfl | rfl | rfl | rfl | rfl <;> omega
set_option maxRecDepth 100000 in
set_option maxHeartbeats 4000000 in
theorem it_confBytes (l : List Int) (hl : l.length = 11) (hp : ∀ x ∈ l, 0 ≤ x ∧ x < 9223372036854775808) (w : World) : Calls Try.prog 90 #[cV l] w (GivesY (nB l) w) := by
  have HP := Lib.hid hp
  have hlen : ∀ k, (nB (l.take k)).length ≤ 99 := fun k => by
    have := nB_len (l.take k) (fun x hx => hp x (List.mem_of_mem_take hx))
    rw [List.length_take] at this
    omega
  have HLEN := Lib.hid hlen
  have HST : Hid (∀ k, k < 11 → nB (l.take (k + 1)) = nB (l.take k) ++ uB (l.getD k 0).toNat) := fun k h => by
    rw [List.take_add_one, List.getD_eq_getElem?_getD, List.getElem?_eq_getElem (by omega)]
    unfold nB
    rw [List.flatMap_append]
    simp
  have HFIN : Hid (nB (l.take 11) = nB l) := by show _ = _; rw [← hl, List.take_length]
  have HMEM : Hid (∀ k, k < 11 → l.getD k 0 ∈ l) := fun k h => by
    rw [List.getD_eq_getElem?_getD, List.getElem?_eq_getElem (by omega)]; exact List.getElem_mem _
  have HCG : Hid (∀ k, k < 11 → (litI l).toArray[k]? = some (.int .i64 (l.getD k 0))) := fun k h => by
    have hk : k < l.length := by omega
    rw [List.getD_eq_getElem?_getD, List.getElem?_eq_getElem hk]
    simp [litI, hk]
  have HB := Lib.hid ((Below.refl w.heap.size w).alloc (Nat.le_refl _) (.cells (litI l).toArray 23))
  have HX := Lib.hid (Box.new w (litI l).toArray 23)
  have KP := Lib.hid (fun W => it_places w.heap.size W)
  have HIX := Lib.hid (fun k hk W => plc_index w.heap.size k hk W)
  clear hp hlen
  generalize nB l = D at *
  obtain ⟨L, hL⟩ : ∃ L, L = l := ⟨_, rfl⟩
  rw [← hL] at HP HST HFIN HMEM HCG HLEN
  obtain ⟨c0, c1, c2, c3, c4, c5, c6, c7, c8, c9, c10, rfl⟩ := eleven_of hl
  rw [show cV [c0, c1, c2, c3, c4, c5, c6, c7, c8, c9, c10] = .agg #[.int .i64 c0, .int .i64 c1, .int .i64 c2, .int .i64 c3, .int .i64 c4, .int .i64 c5, .int .i64 c6, .int .i64 c7, .int .i64 c8, .int .i64 c9, .int .i64 c10] from rfl]
  rw [show (litI [c0, c1, c2, c3, c4, c5, c6, c7, c8, c9, c10]).toArray = #[.int .i64 c0, .int .i64 c1, .int .i64 c2, .int .i64 c3, .int .i64 c4, .int .i64 c5, .int .i64 c6, .int .i64 c7, .int .i64 c8, .int .i64 c9, .int .i64 c10] from rfl] at HB HX
  rw [hL] at HCG
  rw [show (litI [c0, c1, c2, c3, c4, c5, c6, c7, c8, c9, c10]).toArray = #[.int .i64 c0, .int .i64 c1, .int .i64 c2, .int .i64 c3, .int .i64 c4, .int .i64 c5, .int .i64 c6, .int .i64 c7, .int .i64 c8, .int .i64 c9, .int .i64 c10] from rfl, ← hL] at HCG
  clear hl hL
  go_enter Try.func90, Try.ntmps90
  go_wp2_with fail
  refine (KP.out _).mono ?_
  rintro e w1 ⟨rfl, h1⟩
  have hb := HB.out.trans (h1.mono HB.out.size)
  have hx := HX.out.below h1 HX.out.lt
  clear h1 HB HX KP
  go_wp2
  go_loopw [3, 7] (fun v iv wr => ∃ i : Nat, iv = .int .i64 (i : Nat) ∧ i ≤ 11 ∧ Hid (OwnsY wr w.heap.size v (nB (L.take i))) ∧ Hid (Below w.heap.size w wr) ∧ Hid (Box wr w.heap.size #[.int .i64 c0, .int .i64 c1, .int .i64 c2, .int .i64 c3, .int .i64 c4, .int .i64 c5, .int .i64 c6, .int .i64 c7, .int .i64 c8, .int .i64 c9, .int .i64 c10] 23)) (fun _ iv _ => 11 - (intOf iv).toNat)
  case atStart => exact ⟨0, rfl, Nat.zero_le _, (by rw [List.take_zero]; exact OwnsY.nil _ _), hb, hx⟩
  case round =>
    obtain ⟨i, rfl, hi1, HO, HB, HX⟩ := hrel
    by_cases h0 : i < 11
    · have hig : (i : Int) < 11 := by omega
      have hI := HIX.out i h0
      have hcc := (HX.out.cell i).trans (HCG.out i h0)
      have hx := HP.out (L.getD i 0) (HMEM.out i h0)
      have HS := Lib.hid (HST.out i h0)
      have hle := HLEN.out i
      clear HST HIX HCG HMEM
      generalize hxx : L.getD i 0 = x at *
      obtain ⟨n, rfl⟩ := Int.eq_ofNat_of_zero_le hx.1
      rw [Int.toNat_natCast] at HS
      obtain ⟨A1, c1', rfl, q1, q2, q3, -, -⟩ := HO.out.lies
      have K := Lib.hid (bin_U (nB (L.take i)) A1 c1' n wr q3 q1 (by omega) (by omega))
      unfold GivesY at K
      have hun : (n : Int) % 18446744073709551616 = (n : Int) := by omega
      clear q1 q2 q3 hxx
      generalize (nB (L.take i)).length = tl at *
      go_wp2_with fail
      refine (K.out).mono ?_
      rintro e w2 ⟨⟨v2, rfl, g1⟩, g2⟩
      have HO2 : Hid (OwnsY w2 w.heap.size v2 (nB (L.take (i + 1)))) := by
        show OwnsY _ _ _ _
        rw [HS.out]
        exact ownY_le g1 HB.out.size
      have HB2 := Lib.hid (HB.out.trans (g2.mono HB.out.size))
      have HX2 := Lib.hid (HX.out.below g2 HX.out.lt)
      clear g1 g2
      go_wp2
      exact ⟨⟨i + 1, by go_num, by omega, HO2, HB2, HX2⟩, by simp [intOf]; omega⟩
    · obtain rfl : i = 11 := by omega
      have HO2 := HO.out
      rw [HFIN.out] at HO2
      have HO3 := Lib.hid HO2
      clear HO2
      go_wp2
      go_ret
      exact ⟨⟨_, rfl, HO3.out⟩, HB.out⟩
set_option maxRecDepth 100000 in
set_option maxHeartbeats 4000000 in
theorem it_putC (c0 c1 c2 c3 c4 c5 c6 c7 c8 c9 c10 : Int) (R : Bool) (D l : List Int) (A : Option Addr) (c : Nat) (f1 f2 : Nat) (w : World) (hA : LiesY w w.heap.size A l) (hAc : A = none → c = 0) (hl : l.length ≤ 1000)
    (KR : Hid (∀ W, Below w.heap.size w W → Calls Try.prog 89 #[.agg #[.int .i64 c0, .int .i64 c1, .int .i64 c2, .int .i64 c3, .int .i64 c4, .int .i64 c5, .int .i64 c6, .int .i64 c7, .int .i64 c8, .int .i64 c9, .int .i64 c10]] W fun e w' => e = .returned (.bool R) ∧ Below W.heap.size W w'))
    (KD : Hid (R = true → D.length ≤ 1000 ∧ ∀ W, Below w.heap.size w W → Calls Try.prog 90 #[.agg #[.int .i64 c0, .int .i64 c1, .int .i64 c2, .int .i64 c3, .int .i64 c4, .int .i64 c5, .int .i64 c6, .int .i64 c7, .int .i64 c8, .int .i64 c9, .int .i64 c10]] W (GivesY D W))) :
    Calls Try.prog 88 #[.slice A l.length c, .agg #[.int .i64 c0, .int .i64 c1, .int .i64 c2, .int .i64 c3, .int .i64 c4, .int .i64 c5, .int .i64 c6, .int .i64 c7, .int .i64 c8, .int .i64 c9, .int .i64 c10], .func (.func 89) #[] #[], .func (.func 90) #[] #[]] w (GivesY (l ++ if R = true then D else []) w) := by
  have hb1 := ((Below.refl w.heap.size w).alloc (Nat.le_refl _) (.cells #[.int .i64 c0, .int .i64 c1, .int .i64 c2, .int .i64 c3, .int .i64 c4, .int .i64 c5, .int .i64 c6, .int .i64 c7, .int .i64 c8, .int .i64 c9, .int .i64 c10] 23))
  have HA := Lib.hid (hA.below hb1)
  have HAc := Lib.hid hAc
  have HB := Lib.hid hb1
  have HX := Lib.hid (Box.new w #[.int .i64 c0, .int .i64 c1, .int .i64 c2, .int .i64 c3, .int .i64 c4, .int .i64 c5, .int .i64 c6, .int .i64 c7, .int .i64 c8, .int .i64 c9, .int .i64 c10] 23)
  have HLL := Lib.hid hl
  clear hA hAc hb1 hl
  generalize hN : l.length = N at *
  have HN := Lib.hid hN
  clear hN
  unfold GivesY at KD
  have hS : w.heap.size + 1 ≤ (w.alloc (.cells #[.int .i64 c0, .int .i64 c1, .int .i64 c2, .int .i64 c3, .int .i64 c4, .int .i64 c5, .int .i64 c6, .int .i64 c7, .int .i64 c8, .int .i64 c9, .int .i64 c10] 23)).heap.size := by rw [alloc_size']; exact Nat.le_refl _
  have HS := Lib.hid hS
  clear hS
  cases R
  · rw [if_neg (by simp), List.append_nil]
    clear KD
    go_enter Try.func88, Try.ntmps88
    go_wp2_with (at_builtin; refine app_own (B := w.heap.size + 1) rfl (.const (.slice none 0 0)) (.tmp 10) rfl _ [] l A c N rfl rfl HN.out HAc.out (OwnsY.nil _ _) HA.out HS.out (by have := HLL.out; simp; omega) ?_; intro v1 w1 g1 g2; have HO1 := Lib.hid g1; have HB1 := Lib.hid (HB.out.trans (g2.mono (Nat.le_succ _))); have HX1 := Lib.hid (HX.out.below g2 (Nat.lt_succ_self _)); clear g1 g2; obtain ⟨x0, x1, x2, x3, x4, x5, x6, x7, x8, x9, x10⟩ := box11 (HX1.out))
    refine (KR.out w1 HB1.out).mono ?_
    rintro e w2 ⟨rfl, b2⟩
    have HO2 := Lib.hid (HO1.out.below b2)
    have HB2 := Lib.hid (HB1.out.trans (b2.mono HB1.out.size))
    clear b2 HO1 HX1
    go_wp2
    go_ret
    exact ⟨⟨_, rfl, by have := ownY_le HO2.out (Nat.le_succ _); rw [List.nil_append] at this; exact this⟩, HB2.out⟩
  · rw [if_pos rfl]
    obtain ⟨hD, hK⟩ := KD.out rfl
    have HD := Lib.hid hD
    have HK := Lib.hid hK
    clear KD hD hK
    go_enter Try.func88, Try.ntmps88
    go_wp2_with (at_builtin; refine app_own (B := w.heap.size + 1) rfl (.const (.slice none 0 0)) (.tmp 10) rfl _ [] l A c N rfl rfl HN.out HAc.out (OwnsY.nil _ _) HA.out HS.out (by have := HLL.out; simp; omega) ?_; intro v1 w1 g1 g2; have HO1 := Lib.hid g1; have HB1 := Lib.hid (HB.out.trans (g2.mono (Nat.le_succ _))); have HX1 := Lib.hid (HX.out.below g2 (Nat.lt_succ_self _)); have HS1 := Lib.hid (Nat.le_trans HS.out g2.size); clear g1 g2; obtain ⟨x0, x1, x2, x3, x4, x5, x6, x7, x8, x9, x10⟩ := box11 (HX1.out))
    refine (KR.out w1 HB1.out).mono ?_
    rintro e w2 ⟨rfl, b2⟩
    have HO2 := Lib.hid (HO1.out.below b2)
    have HB2 := Lib.hid (HB1.out.trans (b2.mono HB1.out.size))
    have HX2 := Lib.hid (HX1.out.below b2 HX1.out.lt)
    have HS2 := Lib.hid (Nat.le_trans HS1.out b2.size)
    clear b2 HO1 HX1 x0 x1 x2 x3 x4 x5 x6 x7 x8 x9 x10
    obtain ⟨x0, x1, x2, x3, x4, x5, x6, x7, x8, x9, x10⟩ := box11 (HX2.out)
    go_wp2_with fail
    refine (HK.out w2 HB2.out).mono ?_
    rintro e w3 ⟨⟨v3, rfl, g1⟩, g2⟩
    obtain ⟨A3, c3, rfl, -, -, q3, q4, -⟩ := g1.lies
    have HQ3 := Lib.hid q3
    have HQ4 := Lib.hid q4
    have HO3 := Lib.hid (HO2.out.below g2)
    have HB3 := Lib.hid (HB2.out.trans (g2.mono HB2.out.size))
    have HS3 := Lib.hid (Nat.le_trans HS2.out g2.size)
    have HLN : Hid (([] ++ l).length + D.length ≤ 1000000000) := by show _ ≤ _; have := HLL.out; have := HN.out; have := HD.out; simp; omega
    clear g1 g2 q3 q4 x0 x1 x2 x3 x4 x5 x6 x7 x8 x9 x10 HX2 HK KR
    go_wp2_with (at_builtin; refine app_own (B := w.heap.size + 1) rfl (.tmp 17) (.tmp 20) rfl v1 ([] ++ l) D A3 c3 D.length rfl rfl rfl HQ4.out HO3.out HQ3.out HS3.out HLN.out ?_; intro v4 w4 g1 g2; have HO4 := Lib.hid g1; have HB4 := Lib.hid (HB3.out.trans (g2.mono (Nat.le_succ _))); clear g1 g2)
    go_ret
    exact ⟨⟨_, rfl, by have := ownY_le HO4.out (Nat.le_succ _); rw [List.nil_append] at this; exact this⟩, HB4.out⟩
/-- what is written of a way to work -/
def cW (l : List Int) : List Int := if okCf l = true then nB l else []
set_option maxRecDepth 100000 in
set_option maxHeartbeats 4000000 in
theorem it_PutConf (L : List Int) (hL : L.length = 11) (hi : I64 (L.getD 7 0)) (l : List Int) (A : Option Addr) (c : Nat) (w : World) (hA : LiesY w w.heap.size A l) (hAc : A = none → c = 0) (hl : l.length ≤ 1000) :
    Calls Try.prog 16 #[.slice A l.length c, cV L] w (GivesY (l ++ cW L) w) := by
  have hb1 := ((Below.refl w.heap.size w).alloc (Nat.le_refl _) (.cells (litI L).toArray 23))
  have hbd := @okC_bd L hL
  have KD : Hid (okCf L = true → (nB L).length ≤ 1000 ∧ ∀ W, Below (w.alloc (.cells (litI L).toArray 23)).heap.size (w.alloc (.cells (litI L).toArray 23)) W → Calls Try.prog 90 #[cV L] W (GivesY (nB L) W)) := fun h => ⟨by have := nB_len L (hbd h); omega, fun W _ => it_confBytes L hL (hbd h) W⟩
  obtain ⟨c0, c1, c2, c3, c4, c5, c6, c7, c8, c9, c10, rfl⟩ := eleven_of hL
  have K := Lib.hid (it_putC c0 c1 c2 c3 c4 c5 c6 c7 c8 c9 c10 (okCf [c0, c1, c2, c3, c4, c5, c6, c7, c8, c9, c10]) (nB [c0, c1, c2, c3, c4, c5, c6, c7, c8, c9, c10]) l A c 0 0 _ (hA.up hb1) hAc hl (fun W _ => sch_Right c0 c1 c2 c3 c4 c5 c6 c7 c8 c9 c10 hi W) KD)
  rw [show (if okCf [c0, c1, c2, c3, c4, c5, c6, c7, c8, c9, c10] = true then nB [c0, c1, c2, c3, c4, c5, c6, c7, c8, c9, c10] else []) = cW [c0, c1, c2, c3, c4, c5, c6, c7, c8, c9, c10] from rfl] at K
  have HB := Lib.hid hb1
  rw [show cV [c0, c1, c2, c3, c4, c5, c6, c7, c8, c9, c10] = .agg #[.int .i64 c0, .int .i64 c1, .int .i64 c2, .int .i64 c3, .int .i64 c4, .int .i64 c5, .int .i64 c6, .int .i64 c7, .int .i64 c8, .int .i64 c9, .int .i64 c10] from rfl]
  rw [show (litI [c0, c1, c2, c3, c4, c5, c6, c7, c8, c9, c10]).toArray = #[.int .i64 c0, .int .i64 c1, .int .i64 c2, .int .i64 c3, .int .i64 c4, .int .i64 c5, .int .i64 c6, .int .i64 c7, .int .i64 c8, .int .i64 c9, .int .i64 c10] from rfl] at K HB
  obtain ⟨x0, x1, x2, x3, x4, x5, x6, x7, x8, x9, x10⟩ := box11 (Box.new w #[.int .i64 c0, .int .i64 c1, .int .i64 c2, .int .i64 c3, .int .i64 c4, .int .i64 c5, .int .i64 c6, .int .i64 c7, .int .i64 c8, .int .i64 c9, .int .i64 c10] 23)
  clear hA hAc hl hb1 KD hbd hi hL
  unfold GivesY at K
  generalize l ++ cW [c0, c1, c2, c3, c4, c5, c6, c7, c8, c9, c10] = D at *
  generalize l.length = N at *
  go_enter Try.func16, Try.ntmps16
  go_wp2_with fail
  refine (K.out).mono ?_
  rintro e w2 ⟨⟨v2, rfl, g1⟩, g2⟩
  have HO := Lib.hid (ownY_le g1 HB.out.size)
  have HB2 := Lib.hid (HB.out.trans (g2.mono HB.out.size))
  clear g1 g2
  go_wp2
  go_ret
  exact ⟨⟨_, rfl, HO.out⟩, HB2.out⟩
end Go.Proofs.Ytpoemflclbhekaa
