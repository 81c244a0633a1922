/- Layer 21 (bin): Text, Ints; the reference's U, I, Text, Ints. -/
import Derived.Test.YtkfmebdpfjjkjaaBinC
namespace Go.Proofs.Ytkfmebdpfjjkjaa
open Go.RowKit
set_option linter.unusedVariables false
set_option linter.unusedSimpArgs false

theorem flat_iB : ∀ l : List Int, (∀ x ∈ l, I64 x) → (l.flatMap iB).length ≤ 9 * l.length
  | [], _ => by simp
  | x :: r, h => by
    have h1 := flat_iB r (fun y hy => h y (by simp [hy]))
    have h2 := (uB_len (fold_bd (h x (by simp)))).2
    rw [List.flatMap_cons, List.length_append, List.length_cons]
    unfold iB at h1 ⊢
    omega
set_option maxRecDepth 100000 in
set_option maxHeartbeats 4000000 in
theorem bin_list_int (B B2 : Nat) (v : Value) (l y : List Int) (A : Option Addr) (c : Nat) (w : World) (hst : StY w B v l) (hB : B ≤ w.heap.size) (hl : l.length ≤ 1000000) (hy : Lies w B2 A y) (hB2 : B2 ≤ B) (hyl : y.length ≤ 100000) (hyi : ∀ x ∈ y, I64 x) :
    Calls Try.prog 127 #[v, .slice A y.length c, .func (.func 129) #[] #[]] w fun e w' => (∃ v', e = .returned v' ∧ OwnsY w' B v' (l ++ lB y)) ∧ Below B w w' := by
  have K1 := Lib.hid (bin_number B v l y.length w hst hB (by omega) (by omega))
  have HY := Lib.hid (fun W (h : Below B w W) => hy.below (h.mono hB2))
  have HTB : Hid (l ++ lB y = (l ++ uB y.length) ++ y.flatMap iB) := (by show _ = _; unfold lB; simp)
  have HI64 := Lib.hid (getD_i64 hyi)
  have HUL : Hid ((l ++ uB y.length).length ≤ 1000009) := by
    have := uB_len (n := y.length) (by omega)
    show (l ++ uB y.length).length ≤ _
    rw [List.length_append]; omega
  have HTK : Hid (∀ k, k < y.length → (y.take (k + 1)).flatMap iB = (y.take k).flatMap iB ++ iB (y.getD k 0)) := fun k hk => by rw [take_get y hk, List.flatMap_append]; simp
  have HFU : Hid ((y.take y.length).flatMap iB = y.flatMap iB) := by (show _ = _; rw [List.take_of_length_le (Nat.le_refl _)])
  have HFL : Hid (∀ k, ((y.take k).flatMap iB).length ≤ 9 * k) := fun k => Nat.le_trans (flat_iB _ (fun x hx => hyi x (List.mem_of_mem_take hx))) (Nat.mul_le_mul_left 9 (List.length_take_le _ _))
  clear hst hy hyi
  generalize l ++ uB y.length = P at *
  generalize l ++ lB y = R at *
  generalize hM : y.length = M at *
  have HM := Lib.hid hM
  clear hM
  have hw := Lib.hid hB
  go_enter Try.func127, Try.ntmps127
  go_wp2_with fail
  refine (K1.out).mono ?_
  rintro e w1 ⟨⟨v1, rfl, h1⟩, h2⟩
  have HO1 := Lib.hid h1
  have HB1 := Lib.hid h2
  clear h1 h2 K1
  go_wp2
  go_loopw [0, 16] (fun v i wr => ∃ (k : Nat) (z : Value), z = v ∧ k ≤ M ∧ i = .int .i64 k ∧ Hid (OwnsY wr B z (P ++ (y.take k).flatMap iB)) ∧ Hid (Below B w wr)) (fun _ i _ => M - (intOf i).toNat)
  case atStart => exact ⟨0, _, rfl, by omega, rfl, (by rw [List.take_zero, List.flatMap_nil, List.append_nil]; exact HO1), HB1.out⟩
  case round =>
    obtain ⟨k, z, rfl, hk, rfl, HO, HB⟩ := hrel
    clear HO1 HB1
    by_cases hkM : k < M
    · have hkg : (k : Int) < (M : Int) := by omega
      obtain ⟨ad, eA, hab, hc⟩ := HY.out wr HB.out (by have := HM.out; omega)
      subst eA
      have c0 := hc k (by have := HM.out; omega)
      have HT := Lib.hid (HTK.out k (by have := HM.out; omega))
      have hlt : (P ++ (y.take k).flatMap iB).length ≤ 100000000 := by
        have := HUL.out
        have := HFL.out k
        rw [List.length_append]; omega
      have hi64 := HI64.out k
      generalize y.getD k 0 = d at *
      have hsz := HB.out.size
      have KT := Lib.hid (bin_signed B z (P ++ (y.take k).flatMap iB) d wr (.inl HO.out) (Nat.le_trans hw.out hsz) hlt hi64)
      clear hc HTK hlt
      go_wp2_with fail
      refine (KT.out).mono ?_
      rintro e w2 ⟨⟨v2, rfl, h1⟩, h2⟩
      have HO2 : Hid (OwnsY w2 B v2 (P ++ (y.take (k + 1)).flatMap iB)) := by
        show OwnsY w2 B v2 _
        rw [HT.out, ← List.append_assoc]; exact h1
      have HB2 := Lib.hid (HB.out.trans h2)
      clear h1 h2
      go_wp2
      exact ⟨⟨k + 1, _, rfl, by omega, by go_num, HO2, HB2⟩, by first | (simp [intOf]; done) | (simp [intOf]; omega)⟩
    · obtain rfl : k = M := by omega
      have HR : Hid (OwnsY wr B z R) := by
        have := HO.out
        rw [HFU.out, ← HTB.out] at this
        exact this
      go_wp2
      go_ret
      exact ⟨⟨_, rfl, HR.out⟩, HB.out⟩
set_option maxRecDepth 100000 in
set_option maxHeartbeats 2000000 in
theorem bin_Text (l : List Int) (A : Option Addr) (c : Nat) (y : List Int) (A2 : Option Addr) (c2 : Nat) (w : World) (hA : LiesY w w.heap.size A l) (hc : l.length ≤ c) (hl : l.length ≤ 1000000) (hy : LiesY w w.heap.size A2 y) (hyl : y.length ≤ 1000000) :
    Calls Try.prog 68 #[.slice A l.length c, .slice A2 y.length c2] w (GivesY (l ++ tB y) w) := by
  have K1 := Lib.hid (bin_bare l A c w hA hc)
  have K2 := Lib.hid (fun A' (h : LiesY w w.heap.size A' l) => bin_list_byte w.heap.size w.heap.size (.slice A' l.length l.length) l y A2 c2 w (.inr ⟨A', rfl, h⟩) (Nat.le_refl _) hl hy (Nat.le_refl _) hyl)
  clear hA hy
  unfold GivesY
  generalize l ++ tB y = U at *
  generalize l.length = N at *
  generalize y.length = M at *
  go_enter Try.func68, Try.ntmps68
  go_wp2_with fail
  refine (K1.out).mono ?_
  rintro e w' ⟨⟨A', rfl, h1⟩, rfl⟩
  have KK := Lib.hid (K2.out A' h1)
  clear h1
  go_wp2_with fail
  refine (KK.out).mono ?_
  rintro e w1 ⟨⟨v', rfl, h1⟩, h2⟩
  have H1 := Lib.hid h1
  have H2 := Lib.hid h2
  clear h1 h2
  go_wp2
  go_ret
  exact ⟨⟨_, rfl, H1.out⟩, H2.out⟩
set_option maxRecDepth 100000 in
set_option maxHeartbeats 2000000 in
theorem bin_Ints (l : List Int) (A : Option Addr) (c : Nat) (y : List Int) (A2 : Option Addr) (c2 : Nat) (w : World) (hA : LiesY w w.heap.size A l) (hc : l.length ≤ c) (hl : l.length ≤ 1000000) (hy : Lies w w.heap.size A2 y) (hyl : y.length ≤ 100000) (hyi : ∀ x ∈ y, I64 x) :
    Calls Try.prog 67 #[.slice A l.length c, .slice A2 y.length c2] w (GivesY (l ++ lB y) w) := by
  have K1 := Lib.hid (bin_bare l A c w hA hc)
  have K2 := Lib.hid (fun A' (h : LiesY w w.heap.size A' l) => bin_list_int w.heap.size w.heap.size (.slice A' l.length l.length) l y A2 c2 w (.inr ⟨A', rfl, h⟩) (Nat.le_refl _) hl hy (Nat.le_refl _) hyl hyi)
  clear hA hy
  unfold GivesY
  generalize l ++ lB y = U at *
  generalize l.length = N at *
  generalize y.length = M at *
  go_enter Try.func67, Try.ntmps67
  go_wp2_with fail
  refine (K1.out).mono ?_
  rintro e w' ⟨⟨A', rfl, h1⟩, rfl⟩
  have KK := Lib.hid (K2.out A' h1)
  clear h1
  go_wp2_with fail
  refine (KK.out).mono ?_
  rintro e w1 ⟨⟨v', rfl, h1⟩, h2⟩
  have H1 := Lib.hid h1
  have H2 := Lib.hid h2
  clear h1 h2
  go_wp2
  go_ret
  exact ⟨⟨_, rfl, H1.out⟩, H2.out⟩
set_option maxRecDepth 100000 in
set_option maxHeartbeats 4000000 in
theorem ref_UY (n : Nat) (w : World) (hn : n < 18446744073709551616) : Calls Try.prog 95 #[.int .u64 n] w (GivesY (uB n) w) := by
  by_cases h : n < 240
  · rw [uB_small h]
    have e1 : IntKind.u8.wrap (n : Int) = (n : Int) := by (show (n : Int) % 256 = _; omega)
    have hng : (n : Int) < 240 := by omega
    go_enter Try.func95, Try.ntmps95
    go_wp2
    go_ret
    exact ⟨⟨_, rfl, own_lit (Box.new _ _ _) (Nat.le_refl _)⟩, (Below.refl _ _).alloc (Nat.le_refl _) _⟩
  · have HU := Lib.hid (uB_great h)
    have HL8 := Lib.hid (beB_8 hn)
    generalize uB n = U at *
    have hng : ¬ (n : Int) < 240 := by omega
    go_enter Try.func95, Try.ntmps95
    go_wp2
    go_loopw [0, 3] (fun nv dv wr => ∃ (m : Nat) (D : List Int) (A : Option Addr) (c : Nat), nv = .int .u64 m ∧ dv = .slice A D.length c ∧ m ≤ n ∧ D.length ≤ 8 ∧ Hid (beB n = beB m ++ D) ∧ Hid (OwnsY wr w.heap.size (.slice A D.length c) D) ∧ Hid (Below w.heap.size w wr)) (fun nv _ _ => (intOf nv).toNat)
    case atStart => exact ⟨n, [], none, 0, rfl, rfl, Nat.le_refl _, by simp, (by show _ = _; simp), OwnsY.nil _ _, Below.refl _ _⟩
    case round =>
      obtain ⟨m, D, A, c, rfl, rfl, hm, hD, HE, HO, HB⟩ := hrel
      obtain ⟨A', c', e', hlc, hcm, hL, hAc, -⟩ := HO.out.lies
      cases e'
      have HL := Lib.hid hL
      have HAc := Lib.hid hAc
      clear hL hAc
      have hsz := HB.out.size
      by_cases hm0 : m = 0
      · subst hm0
        have HDD : Hid (D = beB n) := by
          have := HE.out
          rw [beB_0, List.nil_append] at this
          exact this.symm
        have h239 : IntKind.u8.wrap (239 + (D.length : Int)) = 239 + (D.length : Int) := by (show (239 + (D.length : Int)) % 256 = _; omega)
        have hal := (Below.refl wr.heap.size wr).alloc (Nat.le_refl _) (.cells #[.int .u8 (239 + (D.length : Int))] 5)
        have HLa := Lib.hid (HL.out.below hal)
        generalize hN : D.length = N at *
        have HN := Lib.hid hN
        clear hN
        go_wp2_with (at_builtin; refine app_own rfl (.tmp 23) (.tmp 24) rfl _ [239 + (N : Int)] D A c N rfl rfl HN.out HAc.out (own_lit (Box.new _ _ _) hsz) HLa.out (by rw [alloc_size']; omega) (by simp; omega) ?_; intro v1 w1 g1 g2; have HO1 := Lib.hid g1; have HB1 := Lib.hid ((HB.out.trans (hal.mono hsz)).trans g2); clear g1 g2)
        go_ret
        refine ⟨⟨_, rfl, ?_⟩, HB1.out⟩
        have := HO1.out
        rw [HU.out, ← HDD.out, HN.out]
        exact this
      · have hmg : (0 : Int) < (m : Int) := by omega
        have HE2 : Hid (beB n = beB (m / 256) ++ (((m : Int) % 256) :: D)) := by
          have := HE.out
          rw [beB_pos hm0] at this
          show _ = _
          rw [this]; simp
        have hD8 : D.length < 8 := by
          have h1 := HL8.out
          have h2 := congrArg List.length HE2.out
          rw [List.length_append, List.length_cons] at h2
          omega
        have hal := (Below.refl wr.heap.size wr).alloc (Nat.le_refl _) (.cells #[.int .u8 ((m : Int) % 256)] 5)
        have HLa := Lib.hid (HL.out.below hal)
        generalize hN : D.length = N at *
        have HN := Lib.hid hN
        clear hN HE
        go_wp2_with (at_builtin; refine app_own rfl (.tmp 14) (.tmp 15) rfl _ [(m : Int) % 256] D A c N rfl rfl HN.out HAc.out (own_lit (Box.new _ _ _) hsz) HLa.out (by rw [alloc_size']; omega) (by simp; omega) ?_; intro v1 w1 g1 g2; have HO1 := Lib.hid g1; have HB1 := Lib.hid ((HB.out.trans (hal.mono hsz)).trans g2); clear g1 g2)
        obtain ⟨A3, c3, e3, -, -, -, -, -⟩ := OwnsY.lies HO1.out
        have HO2 : Hid (OwnsY w1 w.heap.size (.slice A3 ((((m : Int) % 256) :: D).length) c3) (((m : Int) % 256) :: D)) := by
          have := HO1.out
          rw [e3] at this
          exact this
        exact ⟨⟨m / 256, ((m : Int) % 256) :: D, A3, c3, by simp, e3, by omega, by rw [List.length_cons, HN.out]; omega, HE2, HO2, HB1⟩, by simp [intOf]; omega⟩
set_option maxRecDepth 100000 in
set_option maxHeartbeats 2000000 in
theorem ref_IY (i : Int) (w : World) (hi : I64 i) : Calls Try.prog 151 #[.int .i64 i] w (GivesY (iB i) w) := by
  have K := Lib.hid (ref_UY (fold i) w (fold_bd hi))
  unfold GivesY at K ⊢
  have HI : Hid (iB i = uB (fold i)) := rfl
  obtain ⟨h1, h2⟩ := hi
  by_cases h : i < 0
  · have hf : (fold i : Int) = 2 * -(i + 1) + 1 := by unfold fold; rw [if_pos h]; omega
    generalize uB (fold i) = U at *
    rw [hf] at K
    clear hf
    go_enter Try.func151, Try.ntmps151
    go_wp2_with fail
    refine (K.out).mono ?_
    rintro e w1 ⟨⟨v', rfl, g1⟩, g2⟩
    have H1 := Lib.hid g1
    have H2 := Lib.hid g2
    clear g1 g2
    go_wp2
    go_ret
    rw [HI.out]
    exact ⟨⟨_, rfl, H1.out⟩, H2.out⟩
  · have hf : (fold i : Int) = 2 * i := by unfold fold; rw [if_neg h]; omega
    generalize uB (fold i) = U at *
    rw [hf] at K
    clear hf
    go_enter Try.func151, Try.ntmps151
    go_wp2_with fail
    refine (K.out).mono ?_
    rintro e w1 ⟨⟨v', rfl, g1⟩, g2⟩
    have H1 := Lib.hid g1
    have H2 := Lib.hid g2
    clear g1 g2
    go_wp2
    go_ret
    rw [HI.out]
    exact ⟨⟨_, rfl, H1.out⟩, H2.out⟩
set_option maxRecDepth 100000 in
set_option maxHeartbeats 4000000 in
theorem ref_LY (y : List Int) (A : Option Addr) (c : Nat) (w : World) (hy : Lies w w.heap.size A y) (hyl : y.length ≤ 100000) (hyi : ∀ x ∈ y, I64 x) : Calls Try.prog 102 #[.slice A y.length c] w (GivesY (lB y) w) := by
  have K := Lib.hid (ref_UY y.length w (by omega))
  unfold GivesY at K ⊢
  have HT : Hid (lB y = uB y.length ++ (y.take y.length).flatMap iB) := by (show _ = _; rw [List.take_of_length_le (Nat.le_refl _)]; rfl)
  have HUL : Hid ((uB y.length).length ≤ 9) := (uB_len (by omega)).2
  have HFL : Hid (∀ k, ((y.take k).flatMap iB).length ≤ 9 * k) := fun k => Nat.le_trans (flat_iB _ (fun x hx => hyi x (List.mem_of_mem_take hx))) (Nat.mul_le_mul_left 9 (List.length_take_le _ _))
  have HTK : Hid (∀ k, k < y.length → (y.take (k + 1)).flatMap iB = (y.take k).flatMap iB ++ iB (y.getD k 0)) := fun k hk => by rw [take_get y hk, List.flatMap_append]; simp
  have HI64 := Lib.hid (getD_i64 hyi)
  have HY := Lib.hid (fun W (h : Below w.heap.size w W) => hy.below h)
  clear hy hyi
  generalize uB y.length = U at *
  generalize lB y = R at *
  generalize hM : y.length = M at *
  have HM := Lib.hid hM
  clear hM
  go_enter Try.func102, Try.ntmps102
  go_wp2_with fail
  refine (K.out).mono ?_
  rintro e w1 ⟨⟨v1, rfl, g1⟩, g2⟩
  have HO1 := Lib.hid g1
  have HB1 := Lib.hid g2
  clear g1 g2 K
  go_wp2
  go_loopw [3, 4] (fun v i wr => ∃ (k : Nat) (z : Value), z = v ∧ k ≤ M ∧ i = .int .i64 k ∧ Hid (OwnsY wr w.heap.size z (U ++ (y.take k).flatMap iB)) ∧ Hid (Below w.heap.size w wr)) (fun _ i _ => M - (intOf i).toNat)
  case atStart => exact ⟨0, _, rfl, by omega, rfl, (by rw [List.take_zero, List.flatMap_nil, List.append_nil]; exact HO1), HB1⟩
  case round =>
    obtain ⟨k, z, rfl, hk, rfl, HO, HB⟩ := hrel
    clear HO1 HB1
    by_cases hkM : k < M
    · have hkg : (k : Int) < (M : Int) := by omega
      obtain ⟨ad, eA, hab, hc⟩ := HY.out wr HB.out (by have := HM.out; omega)
      subst eA
      have c0 := hc k (by have := HM.out; omega)
      have HT1 := Lib.hid (HTK.out k (by have := HM.out; omega))
      have hlt : (U ++ (y.take k).flatMap iB).length + 9 ≤ 1000000000 := by
        have := HUL.out
        have := HFL.out k
        rw [List.length_append]; omega
      have hi64 := HI64.out k
      generalize y.getD k 0 = d at *
      have hsz := HB.out.size
      have KT := Lib.hid (ref_IY d wr hi64)
      unfold GivesY at KT
      have hi9 : (iB d).length ≤ 9 := (uB_len (fold_bd hi64)).2
      clear hc HTK
      generalize iB d = J at *
      go_wp2_with fail
      refine (KT.out).mono ?_
      rintro e w2 ⟨⟨v2, rfl, g1⟩, g2⟩
      obtain ⟨A2, c2, e2, hl2, hc2, hL2, hAc2, -⟩ := OwnsY.lies g1
      subst e2
      have HO2 := Lib.hid (HO.out.below g2)
      have HL2 := Lib.hid hL2
      have hs2 := g2.size
      have HB2 := Lib.hid (HB.out.trans (g2.mono hsz))
      clear g1 g2 hL2 hi64
      generalize hJ : J.length = jn at *
      have HJ := Lib.hid hJ
      clear hJ
      go_wp2_with (at_builtin; refine app_own rfl (.tmp 15) (.tmp 20) rfl _ (U ++ (y.take k).flatMap iB) J A2 c2 jn rfl rfl HJ.out hAc2 HO2.out HL2.out (by omega) (by omega) ?_; intro v3 w3 g1 g2; rw [List.append_assoc, ← HT1.out] at g1; have HO3 := Lib.hid g1; have HB3 := Lib.hid (HB2.out.trans g2); clear g1 g2)
      exact ⟨⟨k + 1, _, rfl, by omega, by go_num, HO3, HB3⟩, by first | (simp [intOf]; done) | (simp [intOf]; omega)⟩
    · obtain rfl : k = M := by omega
      have HR : Hid (OwnsY wr w.heap.size z R) := by
        have := HO.out
        rw [← HT.out] at this
        exact this
      go_wp2
      go_ret
      exact ⟨⟨_, rfl, HR.out⟩, HB.out⟩
end Go.Proofs.Ytkfmebdpfjjkjaa
