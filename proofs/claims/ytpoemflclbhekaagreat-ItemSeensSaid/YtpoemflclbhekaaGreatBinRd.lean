/- BinC BinD BinE BinG BinH BinI BinJ BinK BinL -/
import Derived.Test.YtpoemflclbhekaaGreatBinB
import Derived.Test.YtpoemflclbhekaaGreatVecT
import Derived.Defers
import Derived.Recover
import Derived.Test.YtpoemflclbhekaaGreatRegJ
import Derived.Lib.SmallJoins

/-! Layer 21 (bin): U, I, Text, Ints, on both sides. -/
namespace Go.Proofs.YtpoemflclbhekaaGreat
open Go.RowKit
set_option linter.unusedVariables false
set_option linter.unusedSimpArgs false

theorem bin_number (B : Nat) (v : Value) (l : List Int) (n : Nat) (w : World) (hst : StY w B v l) (hB : B ≤ w.heap.size) (hl : l.length ≤ 100000000) (hn2 : n < 18446744073709551616) :
    Calls Tryz.prog 89 #[v, .int .u64 n] w fun e w' => (∃ v', e = .returned v' ∧ OwnsY w' B v' (l ++ uB n)) ∧ Below B w w' := by
  by_cases h : n < 240
  · exact bin_number_small B v l n w hst hB hl h
  · exact bin_number_great B v l n w hst hB hl h hn2
set_option maxRecDepth 100000 in
set_option maxHeartbeats 2000000 in
theorem bin_signed (B : Nat) (v : Value) (l : List Int) (i : Int) (w : World) (hst : StY w B v l) (hB : B ≤ w.heap.size) (hl : l.length ≤ 100000000) (hi : I64 i) :
    Calls Tryz.prog 87 #[v, .int .i64 i] w fun e w' => (∃ v', e = .returned v' ∧ OwnsY w' B v' (l ++ iB i)) ∧ Below B w w' := by
  have K1 := Lib.hid (fun W => bin_folded i hi W)
  have K2 := Lib.hid (bin_number B v l (fold i) w hst hB hl (fold_bd hi))
  have HI : Hid (iB i = uB (fold i)) := rfl
  generalize uB (fold i) = U at *
  generalize iB i = J at *
  generalize fold i = n at *
  clear hst
  go_enter Tryz.func87, Tryz.ntmps87
  go_wp2_with fail
  refine (K1.out _).mono ?_
  rintro e w' ⟨rfl, rfl⟩
  go_wp2_with fail
  refine (K2.out).mono ?_
  rintro e w1 ⟨⟨v', rfl, h1⟩, h2⟩
  have H1 := Lib.hid h1
  have H2 := Lib.hid h2
  clear h1 h2
  go_wp2
  go_ret
  rw [HI.out]
  exact ⟨⟨_, rfl, H1.out⟩, H2.out⟩
set_option maxRecDepth 100000 in
set_option maxHeartbeats 2000000 in
theorem bin_U (l : List Int) (A : Option Addr) (c n : Nat) (w : World) (hA : LiesY w w.heap.size A l) (hc : l.length ≤ c) (hl : l.length ≤ 100000000) (hn : n < 18446744073709551616) :
    Calls Tryz.prog 72 #[.slice A l.length c, .int .u64 n] w (GivesY (l ++ uB n) w) := by
  have K1 := Lib.hid (bin_bare l A c w hA hc)
  have K2 := Lib.hid (fun A' (h : LiesY w w.heap.size A' l) => bin_number w.heap.size (.slice A' l.length l.length) l n w (.inr ⟨A', rfl, h⟩) (Nat.le_refl _) hl hn)
  clear hA
  unfold GivesY
  generalize l ++ uB n = U at *
  generalize l.length = N at *
  go_enter Tryz.func72, Tryz.ntmps72
  go_wp2_with fail
  refine (K1.out).mono ?_
  rintro e w' ⟨⟨A', rfl, h1⟩, rfl⟩
  have KK := Lib.hid (K2.out A' h1)
  clear h1
  go_wp2_with fail
  refine (KK.out).mono ?_
  rintro e w1 ⟨⟨v', rfl, h1⟩, h2⟩
  have H1 := Lib.hid h1
  have H2 := Lib.hid h2
  clear h1 h2
  go_wp2
  go_ret
  exact ⟨⟨_, rfl, H1.out⟩, H2.out⟩
set_option maxRecDepth 100000 in
set_option maxHeartbeats 2000000 in
theorem bin_I (l : List Int) (A : Option Addr) (c : Nat) (i : Int) (w : World) (hA : LiesY w w.heap.size A l) (hc : l.length ≤ c) (hl : l.length ≤ 100000000) (hi : I64 i) :
    Calls Tryz.prog 71 #[.slice A l.length c, .int .i64 i] w (GivesY (l ++ iB i) w) := by
  have K1 := Lib.hid (bin_bare l A c w hA hc)
  have K2 := Lib.hid (fun A' (h : LiesY w w.heap.size A' l) => bin_signed w.heap.size (.slice A' l.length l.length) l i w (.inr ⟨A', rfl, h⟩) (Nat.le_refl _) hl hi)
  clear hA
  unfold GivesY
  generalize l ++ iB i = U at *
  generalize l.length = N at *
  go_enter Tryz.func71, Tryz.ntmps71
  go_wp2_with fail
  refine (K1.out).mono ?_
  rintro e w' ⟨⟨A', rfl, h1⟩, rfl⟩
  have KK := Lib.hid (K2.out A' h1)
  clear h1
  go_wp2_with fail
  refine (KK.out).mono ?_
  rintro e w1 ⟨⟨v', rfl, h1⟩, h2⟩
  have H1 := Lib.hid h1
  have H2 := Lib.hid h2
  clear h1 h2
  go_wp2
  go_ret
  exact ⟨⟨_, rfl, H1.out⟩, H2.out⟩
end Go.Proofs.YtpoemflclbhekaaGreat

/-! Layer 21 (bin): Text, Ints; the reference's U, I, Text, Ints. -/
namespace Go.Proofs.YtpoemflclbhekaaGreat
open Go.RowKit
set_option linter.unusedVariables false
set_option linter.unusedSimpArgs false

theorem flat_iB : ∀ l : List Int, (∀ x ∈ l, I64 x) → (l.flatMap iB).length ≤ 9 * l.length
  | [], _ => by simp
  | x :: r, h => by
    have h1 := flat_iB r (fun y hy => h y (by simp [hy]))
    have h2 := (uB_len (fold_bd (h x (by simp)))).2
    rw [List.flatMap_cons, List.length_append, List.length_cons]
    unfold iB at h1 ⊢
    omega
set_option maxRecDepth 100000 in
set_option maxHeartbeats 4000000 in
theorem bin_list_int (B B2 : Nat) (v : Value) (l y : List Int) (A : Option Addr) (c : Nat) (w : World) (hst : StY w B v l) (hB : B ≤ w.heap.size) (hl : l.length ≤ 1000000) (hy : Lies w B2 A y) (hB2 : B2 ≤ B) (hyl : y.length ≤ 100000) (hyi : ∀ x ∈ y, I64 x) :
    Calls Tryz.prog 93 #[v, .slice A y.length c, .func (.func 87) #[] #[]] w fun e w' => (∃ v', e = .returned v' ∧ OwnsY w' B v' (l ++ lB y)) ∧ Below B w w' := by
  have K1 := Lib.hid (bin_number B v l y.length w hst hB (by omega) (by omega))
  have HY := Lib.hid (fun W (h : Below B w W) => hy.below (h.mono hB2))
  have HTB : Hid (l ++ lB y = (l ++ uB y.length) ++ y.flatMap iB) := (by show _ = _; unfold lB; simp)
  have HI64 := Lib.hid (getD_i64 hyi)
  have HUL : Hid ((l ++ uB y.length).length ≤ 1000009) := by
    have := uB_len (n := y.length) (by omega)
    show (l ++ uB y.length).length ≤ _
    rw [List.length_append]; omega
  have HTK : Hid (∀ k, k < y.length → (y.take (k + 1)).flatMap iB = (y.take k).flatMap iB ++ iB (y.getD k 0)) := fun k hk => by rw [take_get y hk, List.flatMap_append]; simp
  have HFU : Hid ((y.take y.length).flatMap iB = y.flatMap iB) := by (show _ = _; rw [List.take_of_length_le (Nat.le_refl _)])
  have HFL : Hid (∀ k, ((y.take k).flatMap iB).length ≤ 9 * k) := fun k => Nat.le_trans (flat_iB _ (fun x hx => hyi x (List.mem_of_mem_take hx))) (Nat.mul_le_mul_left 9 (List.length_take_le _ _))
  clear hst hy hyi
  generalize l ++ uB y.length = P at *
  generalize l ++ lB y = R at *
  generalize hM : y.length = M at *
  have HM := Lib.hid hM
  clear hM
  have hw := Lib.hid hB
  go_enter Tryz.func93, Tryz.ntmps93
  go_wp2_with fail
  refine (K1.out).mono ?_
  rintro e w1 ⟨⟨v1, rfl, h1⟩, h2⟩
  have HO1 := Lib.hid h1
  have HB1 := Lib.hid h2
  clear h1 h2 K1
  go_wp2
  go_loopw [0, 16] (fun v i wr => ∃ (k : Nat) (z : Value), z = v ∧ k ≤ M ∧ i = .int .i64 k ∧ Hid (OwnsY wr B z (P ++ (y.take k).flatMap iB)) ∧ Hid (Below B w wr)) (fun _ i _ => M - (intOf i).toNat)
  case atStart => exact ⟨0, _, rfl, by omega, rfl, (by rw [List.take_zero, List.flatMap_nil, List.append_nil]; exact HO1), HB1.out⟩
  case round =>
    obtain ⟨k, z, rfl, hk, rfl, HO, HB⟩ := hrel
    clear HO1 HB1
    by_cases hkM : k < M
    · have hkg : (k : Int) < (M : Int) := by omega
      obtain ⟨ad, eA, hab, hc⟩ := HY.out wr HB.out (by have := HM.out; omega)
      subst eA
      have c0 := hc k (by have := HM.out; omega)
      have HT := Lib.hid (HTK.out k (by have := HM.out; omega))
      have hlt : (P ++ (y.take k).flatMap iB).length ≤ 100000000 := by
        have := HUL.out
        have := HFL.out k
        rw [List.length_append]; omega
      have hi64 := HI64.out k
      generalize y.getD k 0 = d at *
      have hsz := HB.out.size
      have KT := Lib.hid (bin_signed B z (P ++ (y.take k).flatMap iB) d wr (.inl HO.out) (Nat.le_trans hw.out hsz) hlt hi64)
      clear hc HTK hlt
      go_wp2_with fail
      refine (KT.out).mono ?_
      rintro e w2 ⟨⟨v2, rfl, h1⟩, h2⟩
      have HO2 : Hid (OwnsY w2 B v2 (P ++ (y.take (k + 1)).flatMap iB)) := by
        show OwnsY w2 B v2 _
        rw [HT.out, ← List.append_assoc]; exact h1
      have HB2 := Lib.hid (HB.out.trans h2)
      clear h1 h2
      go_wp2
      exact ⟨⟨k + 1, _, rfl, by omega, by go_num, HO2, HB2⟩, by first | (simp [intOf]; done) | (simp [intOf]; omega)⟩
    · obtain rfl : k = M := by omega
      have HR : Hid (OwnsY wr B z R) := by
        have := HO.out
        rw [HFU.out, ← HTB.out] at this
        exact this
      go_wp2
      go_ret
      exact ⟨⟨_, rfl, HR.out⟩, HB.out⟩
set_option maxRecDepth 100000 in
set_option maxHeartbeats 2000000 in
theorem bin_Ints (l : List Int) (A : Option Addr) (c : Nat) (y : List Int) (A2 : Option Addr) (c2 : Nat) (w : World) (hA : LiesY w w.heap.size A l) (hc : l.length ≤ c) (hl : l.length ≤ 1000000) (hy : Lies w w.heap.size A2 y) (hyl : y.length ≤ 100000) (hyi : ∀ x ∈ y, I64 x) :
    Calls Tryz.prog 77 #[.slice A l.length c, .slice A2 y.length c2] w (GivesY (l ++ lB y) w) := by
  have K1 := Lib.hid (bin_bare l A c w hA hc)
  have K2 := Lib.hid (fun A' (h : LiesY w w.heap.size A' l) => bin_list_int w.heap.size w.heap.size (.slice A' l.length l.length) l y A2 c2 w (.inr ⟨A', rfl, h⟩) (Nat.le_refl _) hl hy (Nat.le_refl _) hyl hyi)
  clear hA hy
  unfold GivesY
  generalize l ++ lB y = U at *
  generalize l.length = N at *
  generalize y.length = M at *
  go_enter Tryz.func77, Tryz.ntmps77
  go_wp2_with fail
  refine (K1.out).mono ?_
  rintro e w' ⟨⟨A', rfl, h1⟩, rfl⟩
  have KK := Lib.hid (K2.out A' h1)
  clear h1
  go_wp2_with fail
  refine (KK.out).mono ?_
  rintro e w1 ⟨⟨v', rfl, h1⟩, h2⟩
  have H1 := Lib.hid h1
  have H2 := Lib.hid h2
  clear h1 h2
  go_wp2
  go_ret
  exact ⟨⟨_, rfl, H1.out⟩, H2.out⟩
set_option maxRecDepth 100000 in
set_option maxHeartbeats 4000000 in
theorem ref_UY (n : Nat) (w : World) (hn : n < 18446744073709551616) : Calls Tryz.prog 32 #[.int .u64 n] w (GivesY (uB n) w) := by
  by_cases h : n < 240
  · rw [uB_small h]
    have e1 : IntKind.u8.wrap (n : Int) = (n : Int) := by (show (n : Int) % 256 = _; omega)
    have hng : (n : Int) < 240 := by omega
    go_enter Tryz.func32, Tryz.ntmps32
    go_wp2
    go_ret
    exact ⟨⟨_, rfl, own_lit (Box.new _ _ _) (Nat.le_refl _)⟩, (Below.refl _ _).alloc (Nat.le_refl _) _⟩
  · have HU := Lib.hid (uB_great h)
    have HL8 := Lib.hid (beB_8 hn)
    generalize uB n = U at *
    have hng : ¬ (n : Int) < 240 := by omega
    go_enter Tryz.func32, Tryz.ntmps32
    go_wp2
    go_loopw [0, 3] (fun nv dv wr => ∃ (m : Nat) (D : List Int) (A : Option Addr) (c : Nat), nv = .int .u64 m ∧ dv = .slice A D.length c ∧ m ≤ n ∧ D.length ≤ 8 ∧ Hid (beB n = beB m ++ D) ∧ Hid (OwnsY wr w.heap.size (.slice A D.length c) D) ∧ Hid (Below w.heap.size w wr)) (fun nv _ _ => (intOf nv).toNat)
    case atStart => exact ⟨n, [], none, 0, rfl, rfl, Nat.le_refl _, by simp, (by show _ = _; simp), OwnsY.nil _ _, Below.refl _ _⟩
    case round =>
      obtain ⟨m, D, A, c, rfl, rfl, hm, hD, HE, HO, HB⟩ := hrel
      obtain ⟨A', c', e', hlc, hcm, hL, hAc, -⟩ := HO.out.lies
      cases e'
      have HL := Lib.hid hL
      have HAc := Lib.hid hAc
      clear hL hAc
      have hsz := HB.out.size
      by_cases hm0 : m = 0
      · subst hm0
        have HDD : Hid (D = beB n) := by
          have := HE.out
          rw [beB_0, List.nil_append] at this
          exact this.symm
        have h239 : IntKind.u8.wrap (239 + (D.length : Int)) = 239 + (D.length : Int) := by (show (239 + (D.length : Int)) % 256 = _; omega)
        have hal := (Below.refl wr.heap.size wr).alloc (Nat.le_refl _) (.cells #[.int .u8 (239 + (D.length : Int))] 5)
        have HLa := Lib.hid (HL.out.below hal)
        generalize hN : D.length = N at *
        have HN := Lib.hid hN
        clear hN
        go_wp2_with (at_builtin; refine app_own rfl (.tmp 23) (.tmp 24) rfl _ [239 + (N : Int)] D A c N rfl rfl HN.out HAc.out (own_lit (Box.new _ _ _) hsz) HLa.out (by rw [alloc_size']; omega) (by simp; omega) ?_; intro v1 w1 g1 g2; have HO1 := Lib.hid g1; have HB1 := Lib.hid ((HB.out.trans (hal.mono hsz)).trans g2); clear g1 g2)
        go_ret
        refine ⟨⟨_, rfl, ?_⟩, HB1.out⟩
        have := HO1.out
        rw [HU.out, ← HDD.out, HN.out]
        exact this
      · have hmg : (0 : Int) < (m : Int) := by omega
        have HE2 : Hid (beB n = beB (m / 256) ++ (((m : Int) % 256) :: D)) := by
          have := HE.out
          rw [beB_pos hm0] at this
          show _ = _
          rw [this]; simp
        have hD8 : D.length < 8 := by
          have h1 := HL8.out
          have h2 := congrArg List.length HE2.out
          rw [List.length_append, List.length_cons] at h2
          omega
        have hal := (Below.refl wr.heap.size wr).alloc (Nat.le_refl _) (.cells #[.int .u8 ((m : Int) % 256)] 5)
        have HLa := Lib.hid (HL.out.below hal)
        generalize hN : D.length = N at *
        have HN := Lib.hid hN
        clear hN HE
        go_wp2_with (at_builtin; refine app_own rfl (.tmp 14) (.tmp 15) rfl _ [(m : Int) % 256] D A c N rfl rfl HN.out HAc.out (own_lit (Box.new _ _ _) hsz) HLa.out (by rw [alloc_size']; omega) (by simp; omega) ?_; intro v1 w1 g1 g2; have HO1 := Lib.hid g1; have HB1 := Lib.hid ((HB.out.trans (hal.mono hsz)).trans g2); clear g1 g2)
        obtain ⟨A3, c3, e3, -, -, -, -, -⟩ := OwnsY.lies HO1.out
        have HO2 : Hid (OwnsY w1 w.heap.size (.slice A3 ((((m : Int) % 256) :: D).length) c3) (((m : Int) % 256) :: D)) := by
          have := HO1.out
          rw [e3] at this
          exact this
        exact ⟨⟨m / 256, ((m : Int) % 256) :: D, A3, c3, by simp, e3, by omega, by rw [List.length_cons, HN.out]; omega, HE2, HO2, HB1⟩, by simp [intOf]; omega⟩
set_option maxRecDepth 100000 in
set_option maxHeartbeats 2000000 in
theorem ref_IY (i : Int) (w : World) (hi : I64 i) : Calls Tryz.prog 40 #[.int .i64 i] w (GivesY (iB i) w) := by
  have K := Lib.hid (ref_UY (fold i) w (fold_bd hi))
  unfold GivesY at K ⊢
  have HI : Hid (iB i = uB (fold i)) := rfl
  obtain ⟨h1, h2⟩ := hi
  by_cases h : i < 0
  · have hf : (fold i : Int) = 2 * -(i + 1) + 1 := by unfold fold; rw [if_pos h]; omega
    generalize uB (fold i) = U at *
    rw [hf] at K
    clear hf
    go_enter Tryz.func40, Tryz.ntmps40
    go_wp2_with fail
    refine (K.out).mono ?_
    rintro e w1 ⟨⟨v', rfl, g1⟩, g2⟩
    have H1 := Lib.hid g1
    have H2 := Lib.hid g2
    clear g1 g2
    go_wp2
    go_ret
    rw [HI.out]
    exact ⟨⟨_, rfl, H1.out⟩, H2.out⟩
  · have hf : (fold i : Int) = 2 * i := by unfold fold; rw [if_neg h]; omega
    generalize uB (fold i) = U at *
    rw [hf] at K
    clear hf
    go_enter Tryz.func40, Tryz.ntmps40
    go_wp2_with fail
    refine (K.out).mono ?_
    rintro e w1 ⟨⟨v', rfl, g1⟩, g2⟩
    have H1 := Lib.hid g1
    have H2 := Lib.hid g2
    clear g1 g2
    go_wp2
    go_ret
    rw [HI.out]
    exact ⟨⟨_, rfl, H1.out⟩, H2.out⟩
end Go.Proofs.YtpoemflclbhekaaGreat

/-! Layer 21 (bin): a reader in the memory; From, At, Left, Err, Fail, next, joined, least. -/
namespace Go.Proofs.YtpoemflclbhekaaGreat
open Go.RowKit
set_option linter.unusedVariables false
set_option linter.unusedSimpArgs false

/-- nothing but block g, and new blocks -/
structure Wr (g : Nat) (w w' : World) : Prop where
  os : w'.os = w.os
  tape : w'.tape = w.tape
  output : w'.output = w.output
  size : w.heap.size ≤ w'.heap.size
  block : ∀ k, k < w.heap.size → k ≠ g → w'.heap[k]? = w.heap[k]?
theorem Wr.refl (g : Nat) (w : World) : Wr g w w := ⟨rfl, rfl, rfl, Nat.le_refl _, fun _ _ _ => rfl⟩
theorem Wr.trans {g : Nat} {a b c : World} (h : Wr g a b) (k : Wr g b c) : Wr g a c :=
  ⟨k.os.trans h.os, k.tape.trans h.tape, k.output.trans h.output, Nat.le_trans h.size k.size, fun i hi hg => (k.block i (Nat.lt_of_lt_of_le hi h.size) hg).trans (h.block i hi hg)⟩
theorem Wr.of (g : Nat) {w w' : World} (h : Below w.heap.size w w') : Wr g w w' := ⟨h.os, h.tape, h.output, h.size, fun k hk _ => h.block k hk⟩
theorem Wr.set (g i : Nat) (w : World) (u : Value) : Wr g w (w.setCell ⟨g, i, none⟩ u) := ⟨rfl, rfl, rfl, by simp [World.setCell], fun k _ hg => Below.heap_setCell _ _ _ _ hg⟩
theorem Wr.low {g B : Nat} {w w' : World} (h : Wr g w w') (hg : B ≤ g) (hB : B ≤ w.heap.size) : Below B w w' := ⟨h.os, h.tape, h.output, h.size, fun k hk => h.block k (by omega) (by omega)⟩
theorem Wr.box {g b : Nat} {w w' : World} {cs : Array Value} {t : TypeId} (h : Wr g w w') (hb : Box w b cs t) (hne : b ≠ g) : Box w' b cs t := (h.block b hb.lt hne).trans hb
theorem LiesY.wr {g : Nat} {w w' : World} {A : Option Addr} {l : List Int} (h : LiesY w g A l) (hw : Wr g w w') (hg : g ≤ w.heap.size) : LiesY w' g A l := h.below (hw.low (Nat.le_refl _) hg)
/-- a reader -/
def RdAt (w : World) (B g : Nat) (b : List Int) (k : Nat) (e : Int) : Prop :=
  ∃ A c, Box w g #[.slice A b.length c, .int .i64 (k : Nat), .int .i64 e] 69 ∧ k ≤ b.length ∧ b.length ≤ c ∧ c ≤ maxLen ∧ (A = none → c = 0) ∧ B ≤ g ∧ LiesY w g A b ∧ (∀ ad, A = some ad → B ≤ ad.block ∧ ad.block < g) ∧ byt b ∧ b.length ≤ 1000000
theorem RdAt.lt {w : World} {B g k : Nat} {b : List Int} {e : Int} (h : RdAt w B g b k e) : g < w.heap.size ∧ B ≤ g ∧ k ≤ b.length ∧ b.length ≤ 1000000 ∧ byt b := by
  obtain ⟨A, c, h1, h2, -, -, -, h6, -, -, h9, h10⟩ := h
  exact ⟨h1.lt, h6, h2, h10, h9⟩
theorem RdAt.below {w w' : World} {B g k : Nat} {b : List Int} {e : Int} (h : RdAt w B g b k e) (hb : Below w.heap.size w w') : RdAt w' B g b k e := by
  obtain ⟨A, c, h1, h2, h3, h4, h5, h6, h7, h8⟩ := h
  exact ⟨A, c, h1.below hb h1.lt, h2, h3, h4, h5, h6, h7.below (hb.mono (Nat.le_of_lt h1.lt)), h8⟩
theorem RdAt.wr {w w' : World} {B g g' k : Nat} {b : List Int} {e : Int} (h : RdAt w B g b k e) (hw : Wr g' w w') (hg : g' < B ∨ g < g') : RdAt w' B g b k e := by
  obtain ⟨A, c, h1, h2, h3, h4, h5, h6, h7, h8, h9⟩ := h
  refine ⟨A, c, hw.box h1 (by omega), h2, h3, h4, h5, h6, fun h0 => ?_, h8, h9⟩
  obtain ⟨ad, e, hb, hc⟩ := h7 h0
  have hlt := h1.lt
  refine ⟨ad, e, hb, fun j hj => ?_⟩
  rw [← hc j hj]
  have := h8 ad e
  exact World.cell?_of_block (w := w) (by rw [add_block]; exact hw.block _ (by omega) (by omega))
theorem RdAt.err {w : World} {B g k : Nat} {b : List Int} {e : Int} (h : RdAt w B g b k e) (x : Int) : RdAt (w.setCell ⟨g, 2, none⟩ (.int .i64 x)) B g b k x := by
  obtain ⟨A, c, h1, h2, h3, h4, h5, h6, h7, h8⟩ := h
  exact ⟨A, c, h1.set 2 _, h2, h3, h4, h5, h6, h7.wr (Wr.set g 2 w _) (Nat.le_of_lt h1.lt), h8⟩
theorem RdAt.to {w : World} {B g k : Nat} {b : List Int} {e : Int} (h : RdAt w B g b k e) (k' : Nat) (hk : k' ≤ b.length) : RdAt (w.setCell ⟨g, 1, none⟩ (.int .i64 (k' : Nat))) B g b k' e := by
  obtain ⟨A, c, h1, h2, h3, h4, h5, h6, h7, h8⟩ := h
  exact ⟨A, c, h1.set 1 _, hk, h3, h4, h5, h6, h7.wr (Wr.set g 1 w _) (Nat.le_of_lt h1.lt), h8⟩
theorem RdAt.cells {w : World} {B g k : Nat} {b : List Int} {e : Int} (h : RdAt w B g b k e) : ∃ A c, w.cell? ⟨g, 0, none⟩ = some (.slice A b.length c) ∧ w.cell? ⟨g, 1, none⟩ = some (.int .i64 (k : Nat)) ∧ w.cell? ⟨g, 2, none⟩ = some (.int .i64 e) ∧ w.frozen? ⟨g, 1, none⟩ = false ∧ w.frozen? ⟨g, 2, none⟩ = false := by
  obtain ⟨A, c, h1, -⟩ := h
  exact ⟨A, c, h1.cell 0, h1.cell 1, h1.cell 2, h1.free 1, h1.free 2⟩
set_option maxRecDepth 100000 in
set_option maxHeartbeats 2000000 in
theorem bin_From (b : List Int) (A : Option Addr) (c : Nat) (w : World) (hA : LiesY w w.heap.size A b) (hAc : A = none → c = 0) (hl : b.length ≤ 1000000) (hb : byt b) :
    Calls Tryz.prog 9 #[.slice A b.length c] w fun e w' => (∃ g, e = .returned (.pointer (some ⟨g, 0, none⟩)) ∧ RdAt w' w.heap.size g b 0 0) ∧ Below w.heap.size w w' := by
  have HA := Lib.hid hA
  have HAc := Lib.hid hAc
  clear hA hAc
  generalize hN : b.length = N at *
  have HN := Lib.hid hN
  clear hN
  go_enter Tryz.func9, Tryz.ntmps9
  go_wp2_with (at_builtin; refine app_own rfl (.const (.slice none 0 0)) (.tmp 3) rfl (.slice none 0 0) [] b A c N rfl rfl HN.out HAc.out (OwnsY.nil w w.heap.size) HA.out (Nat.le_refl _) (by simp; omega) ?_; intro v1 w1 g1 g2; obtain ⟨A1, c1, e1, l1, l2, l3, l4, l5⟩ := OwnsY.lies g1; subst e1; have HL := Lib.hid l3; have HB := Lib.hid g2; have HL4 := Lib.hid l4; have HL5 := Lib.hid l5; clear g1 g2 l3 l4 l5)
  go_ret
  have hal := (Below.refl w1.heap.size w1).alloc (Nat.le_refl _) (.cells #[.slice A1 ([] ++ b).length c1, .int .i64 0, .int .i64 0] 69)
  have hz := HB.out.size
  have hn := HN.out
  refine ⟨⟨w1.heap.size, rfl, A1, c1, Box.new w1 _ _, Nat.zero_le _, l1, l2, HL4.out, hz, HL.out.below hal, fun ad e => ?_, hb, by omega⟩, HB.out.trans (hal.mono hz)⟩
  obtain ⟨g, rfl, h1, h2⟩ := HL5.out ad e
  exact ⟨h1, h2⟩
set_option maxRecDepth 100000 in
theorem rd_Err {w : World} {B g k : Nat} {b : List Int} {e0 : Int} (h : RdAt w B g b k e0) : Calls Tryz.prog 23 #[.pointer (some ⟨g, 0, none⟩)] w fun e w' => e = .returned (.int .i64 e0) ∧ w = w' := by
  obtain ⟨A, c, c0, c1, c2, -, -⟩ := h.cells
  clear h
  go_enter Tryz.func23, Tryz.ntmps23
  go_wp2
  go_ret
  exact ⟨rfl, rfl⟩
set_option maxRecDepth 100000 in
theorem rd_At {w : World} {B g k : Nat} {b : List Int} {e0 : Int} (h : RdAt w B g b k e0) : Calls Tryz.prog 24 #[.pointer (some ⟨g, 0, none⟩)] w fun e w' => e = .returned (.int .i64 (k : Nat)) ∧ w = w' := by
  obtain ⟨A, c, c0, c1, c2, -, -⟩ := h.cells
  clear h
  go_enter Tryz.func24, Tryz.ntmps24
  go_wp2
  go_ret
  exact ⟨rfl, rfl⟩
set_option maxRecDepth 100000 in
theorem rd_Left {w : World} {B g k : Nat} {b : List Int} {e0 : Int} (h : RdAt w B g b k e0) : Calls Tryz.prog 113 #[.pointer (some ⟨g, 0, none⟩)] w fun e w' => e = .returned (.int .i64 ((b.length - k : Nat) : Int)) ∧ ∃ n, w' = w.drewN n := by
  obtain ⟨A, c, c0, c1, c2, -, -⟩ := h.cells
  obtain ⟨-, -, h1, h2, -⟩ := h.lt
  clear h
  have hs : ((b.length - k : Nat) : Int) = (b.length : Int) - (k : Int) := by omega
  rw [hs]
  clear hs
  generalize b.length = N at *
  have hw : wrap64 ((N : Int) - (k : Int)) = (N : Int) - (k : Int) := by unfold wrap64; omega
  go_enter Tryz.func113, Tryz.ntmps113
  go_wp2
  go_quiet (fail)
  go_wp2
  go_ret
  exact ⟨by first | rfl | (simp; done) | (apply ret1i; exact hw), _, rfl⟩
theorem rd_Err_nil (w : World) : Calls Tryz.prog 23 #[.pointer none] w fun e w' => e = .returned (.int .i64 7) ∧ w = w' := by
  go_enter Tryz.func23, Tryz.ntmps23
  go_wp2
  go_ret
  exact ⟨rfl, rfl⟩
/-- which error stays -/
def failE (e x : Int) : Int := if e ≠ 0 then e else if x = 0 then 211 else x
set_option maxRecDepth 100000 in
set_option maxHeartbeats 2000000 in
theorem rd_Fail {w : World} {B g k : Nat} {b : List Int} {e0 : Int} (h : RdAt w B g b k e0) (x : Int) : Calls Tryz.prog 44 #[.pointer (some ⟨g, 0, none⟩), .int .i64 x] w fun e w' => e = .returned (.tuple #[]) ∧ RdAt w' B g b k (failE e0 x) ∧ Wr g w w' := by
  have KE := Lib.hid (rd_Err h)
  have HR := Lib.hid h
  obtain ⟨A, c, c0, c1, c2, f1, f2⟩ := h.cells
  clear h
  by_cases he : e0 = 0
  · subst he
    by_cases hx : x = 0
    · subst hx
      have HF : Hid (failE 0 0 = 211) := rfl
      go_enter Tryz.func44, Tryz.ntmps44
      go_wp2_with fail
      refine (KE.out).mono ?_
      rintro e w' ⟨rfl, rfl⟩
      go_wp2
      go_end0
      rw [HF.out]
      exact ⟨rfl, HR.out.err 211, Wr.set _ _ _ _⟩
    · have HF : Hid (failE 0 x = x) := by (show _ = _; unfold failE; rw [if_neg (by simp), if_neg hx])
      have hxb : (x == 0) = false := by simpa using hx
      clear hx
      go_enter Tryz.func44, Tryz.ntmps44
      go_wp2_with fail
      refine (KE.out).mono ?_
      rintro e w' ⟨rfl, rfl⟩
      go_wp2
      go_end0
      rw [HF.out]
      exact ⟨rfl, HR.out.err x, Wr.set _ _ _ _⟩
  · have HF : Hid (failE e0 x = e0) := by (show _ = _; unfold failE; rw [if_pos he])
    have heb : (e0 != 0) = true := by simpa using he
    clear he
    go_enter Tryz.func44, Tryz.ntmps44
    go_wp2_with fail
    refine (KE.out).mono ?_
    rintro e w' ⟨rfl, rfl⟩
    go_wp2
    first | go_end0 | refine bodyPost_ret (results_none rfl _ _ _) rfl ?_
    rw [HF.out]
    exact ⟨rfl, HR.out, Wr.refl _ _⟩
theorem or_byte (h l : Int) (h0 : 0 ≤ h) (h1 : h < 72057594037927936) (l0 : 0 ≤ l) (l1 : l < 256) : bits .or .u64 (h * 256) l = h * 256 + l := by
  rw [u64_or _ _ (by omega) (by omega) (by omega) (by omega)]
  obtain ⟨h, rfl⟩ := Int.eq_ofNat_of_zero_le h0
  obtain ⟨l, rfl⟩ := Int.eq_ofNat_of_zero_le l0
  have e : ((h : Int) * 256).toNat = 2 ^ 8 * h := by omega
  have e2 : ((l : Int)).toNat = l := by omega
  rw [e, e2, ← Nat.two_pow_add_eq_or_of_lt (by omega : l < 2 ^ 8)]
  omega
theorem joinN_take {y : List Int} (hy : byt y) {k : Nat} (hk : k < y.length) : (joinN (y.take (k + 1)) : Int) = joinN (y.take k) * 256 + y.getD k 0 := by
  rw [take_get y hk, joinN_snoc]
  have := hy.getD k
  omega
set_option maxRecDepth 100000 in
set_option maxHeartbeats 2000000 in
theorem bin_joined (y : List Int) (A : Option Addr) (c B : Nat) (w : World) (hA : LiesY w B A y) (hy : byt y) (hl : y.length ≤ 8) :
    Calls Tryz.prog 101 #[.slice A y.length c] w fun e w' => e = .returned (.int .u64 (joinN y : Nat)) ∧ w = w' := by
  have HA := Lib.hid hA
  have HS := Lib.hid (fun k (hk : k < y.length) => joinN_take hy hk)
  have HD := Lib.hid (fun k => hy.getD k)
  have HLT : Hid (∀ k, k < y.length → joinN (y.take k) < 72057594037927936) := fun k hk => by
    have h1 := joinN_lt _ (y.take k) rfl (hy.take k)
    have h2 : 256 ^ (y.take k).length ≤ 256 ^ 7 := Nat.pow_le_pow_right (by omega) (by rw [List.length_take]; omega)
    omega
  have HE : Hid (joinN (y.take y.length) = joinN y) := by (show _ = _; rw [List.take_of_length_le (Nat.le_refl _)])
  clear hA hy
  generalize joinN y = R at *
  generalize hM : y.length = M at *
  have HM := Lib.hid hM
  clear hM
  go_enter Tryz.func101, Tryz.ntmps101
  go_wp2
  go_loop [3, 8] (fun nv i => ∃ k : Nat, k ≤ M ∧ i = .int .i64 k ∧ nv = .int .u64 (joinN (y.take k) : Nat)) (fun _ i => M - (intOf i).toNat)
  case atStart => exact ⟨0, by omega, rfl, rfl⟩
  case round =>
    obtain ⟨k, hk, rfl, rfl⟩ := hrel
    by_cases hkM : k < M
    · have hkg : (k : Int) < (M : Int) := by omega
      obtain ⟨ad, eA, hab, hc⟩ := HA.out (by have := HM.out; omega)
      subst eA
      have c0 := hc k (by have := HM.out; omega)
      have HS1 := Lib.hid (HS.out k hkM)
      obtain ⟨d0, d1⟩ := HD.out k
      have hlt := HLT.out k hkM
      clear hc HS HD HLT HE
      generalize y.getD k 0 = d at *
      generalize joinN (y.take k) = J at *
      have hor := or_byte (J : Int) d (by omega) (by omega) d0 d1
      go_wp2
      exact ⟨⟨k + 1, by omega, by go_num, by rw [HS1.out]⟩, by first | (simp [intOf]; done) | (simp [intOf]; omega)⟩
    · obtain rfl : k = M := by omega
      go_wp2
      go_ret
      rw [HE.out]
      exact ⟨rfl, rfl⟩
theorem bin_least (s : Nat) (h1 : 1 ≤ s) (h8 : s ≤ 8) (w : World) : Calls Tryz.prog 104 #[.int .i64 s] w fun e w' => e = .returned (.int .u64 (leastN s : Nat)) ∧ w = w' := by
  have : s = 1 ∨ s = 2 ∨ s = 3 ∨ s = 4 ∨ s = 5 ∨ s = 6 ∨ s = 7 ∨ s = 8 := by omega
  rcases this with rfl | rfl | rfl | rfl | rfl | rfl | rfl | rfl
  all_goals
    go_enter Tryz.func104, Tryz.ntmps104
    go_wp2
    go_ret
    exact ⟨by simp [leastN], rfl⟩
end Go.Proofs.YtpoemflclbhekaaGreat

/-! Layer 21 (bin): a reader's next, number. -/
namespace Go.Proofs.YtpoemflclbhekaaGreat
open Go.RowKit
set_option linter.unusedVariables false
set_option linter.unusedSimpArgs false

theorem Wr.drewN (g : Nat) (w : World) (n : Nat) : Wr g w (w.drewN n) := Wr.of g (below_drewN2 (Below.refl _ _) n)
theorem RdAt.drewN {w : World} {B g k : Nat} {b : List Int} {e : Int} (h : RdAt w B g b k e) (n : Nat) : RdAt (w.drewN n) B g b k e := h.below (below_drewN2 (Below.refl _ _) n)
set_option maxRecDepth 100000 in
set_option maxHeartbeats 2000000 in
theorem rd_next_short {w : World} {B g k : Nat} {b : List Int} {e0 : Int} (h : RdAt w B g b k e0) (m : Nat) (hm : b.length - k < m) (hm2 : m ≤ 9223372036854775807) :
    Calls Tryz.prog 102 #[.pointer (some ⟨g, 0, none⟩), .int .i64 (m : Nat)] w fun e w' => e = .returned (.slice none 0 0) ∧ RdAt w' B g b k (failE e0 210) ∧ Wr g w w' := by
  have KL := Lib.hid (rd_Left h)
  have KF := Lib.hid (fun n => rd_Fail (h.drewN n) 210)
  obtain ⟨-, -, hk, hb, -⟩ := h.lt
  have hmg : ((b.length - k : Nat) : Int) < (m : Int) := by omega
  clear h
  generalize b.length - k = r at *
  go_enter Tryz.func102, Tryz.ntmps102
  go_wp2_with fail
  refine (KL.out).mono ?_
  rintro e w' ⟨rfl, n, rfl⟩
  go_wp2_with fail
  refine (KF.out n).mono ?_
  rintro e w1 ⟨rfl, h1, h2⟩
  have H1 := Lib.hid h1
  have H2 := Lib.hid ((Wr.drewN g w n).trans h2)
  clear h1 h2
  go_wp2
  go_ret
  exact ⟨rfl, H1.out, H2.out⟩
set_option maxRecDepth 100000 in
set_option maxHeartbeats 4000000 in
theorem rd_next_ok {w : World} {B g k : Nat} {b : List Int} {e0 : Int} (h : RdAt w B g b k e0) (m : Nat) (hm : m ≤ b.length - k) :
    Calls Tryz.prog 102 #[.pointer (some ⟨g, 0, none⟩), .int .i64 (m : Nat)] w fun e w' => ∃ A2 c2, e = .returned (.slice A2 m c2) ∧ RdAt w' B g b (k + m) e0 ∧ Wr g w w' ∧ LiesY w' w'.heap.size A2 ((b.drop k).take m) ∧ (A2 = none → c2 = 0) ∧ m ≤ c2 := by
  have KL := Lib.hid (rd_Left h)
  obtain ⟨hg, -, hk, hb, -⟩ := h.lt
  have HR := Lib.hid h
  obtain ⟨A, c, hbx, -, hbc, -, hAc, -, hL, -⟩ := h
  have HEND : Hid (∀ n, RdAt ((w.drewN n).setCell ⟨g, 1, none⟩ (.int .i64 ((k + m : Nat) : Int))) B g b (k + m) e0) := fun n => (HR.out.drewN n).to (k + m) (by omega)
  have HLY : Hid (∀ n, LiesY ((w.drewN n).setCell ⟨g, 1, none⟩ (.int .i64 ((k + m : Nat) : Int))) g A b) := fun n => (hL.below (below_drewN2 (Below.refl _ _) n)).wr (Wr.set g 1 _ _) (Nat.le_of_lt hg)
  have HB0 : Hid (∀ n, Box (w.drewN n) g #[.slice A b.length c, .int .i64 (k : Nat), .int .i64 e0] 69) := fun n => hbx
  have hmg : ¬ ((b.length - k : Nat) : Int) < (m : Int) := by omega
  have hAc' := Lib.hid hAc
  clear hbx hAc hL
  have HDT : Hid (∀ (W : World) (ad : Addr), A = some ad → LiesY W g A b → g ≤ W.heap.size → LiesY W W.heap.size (some (ad.add k)) ((b.drop k).take m)) := fun W ad e hl hgW h0 => by
    rw [List.length_take, List.length_drop] at h0
    obtain ⟨ad', e', h1, h2⟩ := hl (by omega)
    rw [e] at e'; cases e'
    refine ⟨_, rfl, by rw [add_block]; omega, fun j hj => ?_⟩
    rw [List.length_take, List.length_drop] at hj
    rw [add_addY, h2 (k + j) (by omega), List.getD_eq_getElem?_getD, List.getD_eq_getElem?_getD, List.getElem?_take, if_pos (by omega), List.getElem?_drop]
  have HD0 : Hid (m = 0 → ∀ (W : World) B A2, LiesY W B A2 ((b.drop k).take m)) := fun e W B A2 => by
    rw [e, List.take_zero]; exact LiesY.nil
  generalize hT : (b.drop k).take m = T at *
  clear hT
  generalize b.length = N at *
  generalize hrr : N - k = r at *
  have hkm : ((k : Nat) : Int) + (m : Int) = ((k + m : Nat) : Int) := by omega
  have hw1 : wrap64 ((k : Int) + (m : Int)) = (k : Int) + (m : Int) := by unfold wrap64; omega
  have hcN : ((k + m : Nat) : Int) ≤ (c : Int) := by omega
  have HKM := Lib.hid hkm
  rw [← hkm] at HEND HLY
  clear hkm
  by_cases hck : c = k
  · have hm0 : m = 0 := by omega
    go_enter Tryz.func102, Tryz.ntmps102
    go_wp2_with fail
    refine (KL.out).mono ?_
    rintro e w' ⟨rfl, n, rfl⟩
    have hbx := HB0.out n
    have c0 := hbx.cell 0
    have c1 := hbx.cell 1
    have f1 := hbx.free 1
    have hb2 := hbx.set 1 (.int .i64 ((k : Int) + (m : Int)))
    have d0 := hb2.cell 0
    have d1 := hb2.cell 1
    have HE := Lib.hid (HEND.out n)
    have HL := Lib.hid (HLY.out n)
    have HW : Hid (Wr g w ((w.drewN n).setCell ⟨g, 1, none⟩ (.int .i64 ((k : Int) + (m : Int))))) := (Wr.drewN g w n).trans (Wr.set g 1 _ _)
    simp at c0 c1 d0 d1
    clear hbx hb2 HEND HLY HB0 HR
    go_wp2
    go_quiet (fail)
    go_wp2
    go_ret
    have e0' : (k : Int) + (m : Int) = (k : Int) := by omega
    rw [e0'] at HE HW
    refine ⟨A, 0, ?_, HE.out.drewN nq, HW.out.trans (Wr.drewN _ _ _), HD0.out hm0 _ _ _, fun _ => rfl, by omega⟩
    show Ending.returned (Value.slice A 0 0) = _
    rw [hm0]
  · obtain ⟨ad, eA⟩ : ∃ ad, A = some ad := by
      cases A with
      | none => have := hAc'.out rfl; omega
      | some ad => exact ⟨ad, rfl⟩
    subst eA
    go_enter Tryz.func102, Tryz.ntmps102
    go_wp2_with fail
    refine (KL.out).mono ?_
    rintro e w' ⟨rfl, n, rfl⟩
    have hbx := HB0.out n
    have c0 := hbx.cell 0
    have c1 := hbx.cell 1
    have f1 := hbx.free 1
    have hb2 := hbx.set 1 (.int .i64 ((k : Int) + (m : Int)))
    have d0 := hb2.cell 0
    have d1 := hb2.cell 1
    have HE := Lib.hid (HEND.out n)
    have HL := Lib.hid (HLY.out n)
    have HW : Hid (Wr g w ((w.drewN n).setCell ⟨g, 1, none⟩ (.int .i64 ((k : Int) + (m : Int))))) := (Wr.drewN g w n).trans (Wr.set g 1 _ _)
    simp at c0 c1 d0 d1
    clear hbx hb2 HEND HLY HB0 HR
    go_wp2
    go_quiet (fail)
    go_wp2
    go_ret
    refine ⟨some (ad.add k), c - k, ?_, HE.out.drewN nq, HW.out.trans (Wr.drewN _ _ _), ?_, (fun h => by cases h), by omega⟩
    · show Ending.returned (Value.slice (some (ad.add k)) (k + m - k) (c - k)) = _
      rw [Nat.add_sub_cancel_left]
    · have hsz : g ≤ ((w.drewN n).setCell ⟨g, 1, none⟩ (.int .i64 ((k : Int) + (m : Int)))).heap.size := by
        have : ((w.drewN n).setCell ⟨g, 1, none⟩ (.int .i64 ((k : Int) + (m : Int)))).heap.size = w.heap.size := by simp [World.setCell]
        omega
      exact (HDT.out _ ad rfl HL.out hsz).up (below_drewN2 (Below.refl _ _) nq)
theorem lies_len {w : World} {B : Nat} {A : Option Addr} {y : List Int} (m c : Nat) (hm : y.length = m) : (Value.slice A m c) = .slice A y.length c := by rw [hm]
set_option maxRecDepth 100000 in
theorem bin_joined' (y : List Int) (A : Option Addr) (m c B : Nat) (w : World) (hm : y.length = m) (hA : LiesY w B A y) (hy : byt y) (hl : m ≤ 8) :
    Calls Tryz.prog 101 #[.slice A m c] w fun e w' => e = .returned (.int .u64 (joinN y : Nat)) ∧ w = w' := by
  subst hm
  exact bin_joined y A c B w hA hy hl
/-- what a number gives: where it failed, only how -/
def NumR (w : World) (B g : Nat) (b : List Int) (k : Nat) (e : Ending) (w' : World) : Prop :=
  ∃ (v k2 : Nat) (e2 : Int), e = .returned (.int .u64 v) ∧ v < 18446744073709551616 ∧ RdAt w' B g b k2 e2 ∧ Wr g w w' ∧ e2 = (rU b k 0).1.2 ∧ (e2 = 0 → k2 = (rU b k 0).1.1 ∧ v = (rU b k 0).2)
theorem take1 {b : List Int} {k : Nat} (h : k < b.length) : (b.drop k).take 1 = [b.getD k 0] := by
  rw [List.drop_eq_getElem_cons h, List.take_succ_cons, List.take_zero, List.getD_eq_getElem?_getD, List.getElem?_eq_getElem h]; rfl
set_option maxRecDepth 100000 in
set_option maxHeartbeats 8000000 in
theorem rd_number {w : World} {B g k : Nat} {b : List Int} (h : RdAt w B g b k 0) :
    Calls Tryz.prog 86 #[.pointer (some ⟨g, 0, none⟩)] w (NumR w B g b k) := by
  obtain ⟨hg, hBg, hk, hb, hby⟩ := h.lt
  have KJ0 : Hid (∀ W, Calls Tryz.prog 101 #[.slice none 0 0] W fun e w' => e = .returned (.int .u64 0) ∧ W = w') := fun W => bin_joined' [] none 0 0 0 W rfl LiesY.nil byt.nil (by omega)
  by_cases c1 : b.length ≤ k
  · have hU : rU b k 0 = ((k, 210), 0) := by unfold rU; rw [if_neg (by simp), if_pos c1]
    have KN := Lib.hid (rd_next_short h 1 (by omega) (by omega))
    have HRES : Hid (∀ W, RdAt W B g b k (failE 0 210) → Wr g w W → NumR w B g b k (.returned (.int .u64 0)) W) := fun W h1 h2 => ⟨0, k, 210, rfl, by omega, h1, h2, by rw [hU], fun h => by omega⟩
    clear hU h
    generalize NumR w B g b k = R at *
    go_enter Tryz.func86, Tryz.ntmps86
    go_wp2_with fail
    refine (KN.out).mono ?_
    rintro e w1 ⟨rfl, g1, g2⟩
    have HR1 := Lib.hid g1
    have HW1 := Lib.hid g2
    clear g1 g2
    go_wp2_with fail
    refine (KJ0.out _).mono ?_
    rintro e w2 ⟨rfl, rfl⟩
    go_wp2
    first | exact HRES.out _ HR1.out HW1.out | (go_ret; exact HRES.out _ HR1.out HW1.out)
  have hU0 : rU b k 0 = if b.getD k 0 < 240 then ((k + 1, 0), (b.getD k 0).toNat) else if 247 < b.getD k 0 then ((k, 211), 0)
      else if b.length - k - 1 < (b.getD k 0).toNat - 239 then ((k, 210), 0)
      else if joinN ((b.drop (k + 1)).take ((b.getD k 0).toNat - 239)) < leastN ((b.getD k 0).toNat - 239) then ((k, 211), 0)
      else ((k + 1 + ((b.getD k 0).toNat - 239), 0), joinN ((b.drop (k + 1)).take ((b.getD k 0).toNat - 239))) := by
    conv => lhs; unfold rU
    rw [if_neg (by simp), if_neg c1]
  have KN1 := Lib.hid (rd_next_ok h 1 (by omega))
  rw [take1 (by omega)] at KN1
  have hf := hby.getD k
  generalize b.getD k 0 = f at *
  obtain ⟨n, rfl⟩ : ∃ n : Nat, f = (n : Int) := ⟨f.toNat, by omega⟩
  have KJ1 : Hid (∀ W A c, LiesY W W.heap.size A [(n : Int)] → Calls Tryz.prog 101 #[.slice A 1 c] W fun e w' => e = .returned (.int .u64 (n : Nat)) ∧ W = w') := fun W A c hL => by
    have := bin_joined' [(n : Int)] A 1 c W.heap.size W rfl hL (byt.one hf) (by omega)
    rw [show joinN [(n : Int)] = n from by simp [joinN]] at this
    exact this
  rw [Int.toNat_natCast] at hU0
  clear KJ0
  by_cases c2 : (n : Int) < 240
  · have HRES : Hid (∀ W, RdAt W B g b (k + 1) 0 → Wr g w W → NumR w B g b k (.returned (.int .u64 n)) W) := fun W h1 h2 => ⟨n, k + 1, 0, rfl, by omega, h1, h2, by rw [hU0, if_pos c2], fun _ => by rw [hU0, if_pos c2]; exact ⟨rfl, rfl⟩⟩
    clear hU0 h
    generalize NumR w B g b k = R at *
    go_enter Tryz.func86, Tryz.ntmps86
    go_wp2_with fail
    refine (KN1.out).mono ?_
    rintro e w1 ⟨A1, c1, rfl, g1, g2, g3, -, -⟩
    have HR1 := Lib.hid g1
    have HW1 := Lib.hid g2
    have HL1 := Lib.hid g3
    clear g1 g2 g3
    go_wp2_with fail
    refine (KJ1.out _ _ _ HL1.out).mono ?_
    rintro e w2 ⟨rfl, rfl⟩
    go_wp2
    first | exact HRES.out _ HR1.out HW1.out | (go_ret; exact HRES.out _ HR1.out HW1.out)
  rw [if_neg c2] at hU0
  have KH : Hid (∀ W, Calls Tryz.prog 103 #[.int .i64 0] W fun e w' => e = .returned (.int .u8 239) ∧ W = w') := fun W => bin_head 0 (by omega) (by omega) W
  by_cases c3 : (247 : Int) < (n : Int)
  · rw [if_pos c3] at hU0
    have c3' : ¬ (n : Int) - 239 ≤ 8 := by omega
    have KF := Lib.hid (fun W (h1 : RdAt W B g b (k + 1) 0) => rd_Fail h1 211)
    have HRES : Hid (∀ W, RdAt W B g b (k + 1) (failE 0 211) → Wr g w W → NumR w B g b k (.returned (.int .u64 0)) W) := fun W h1 h2 => ⟨0, k + 1, 211, rfl, by omega, h1, h2, by rw [hU0], fun h => by omega⟩
    clear hU0 h
    generalize NumR w B g b k = R at *
    go_enter Tryz.func86, Tryz.ntmps86
    go_wp2_with fail
    refine (KN1.out).mono ?_
    rintro e w1 ⟨A1, c1, rfl, g1, g2, g3, -, -⟩
    have HR1 := Lib.hid g1
    have HW1 := Lib.hid g2
    have HL1 := Lib.hid g3
    clear g1 g2 g3
    go_wp2_with fail
    refine (KJ1.out _ _ _ HL1.out).mono ?_
    rintro e w2 ⟨rfl, rfl⟩
    go_wp2_with fail
    refine (KH.out _).mono ?_
    rintro e w3 ⟨rfl, rfl⟩
    go_wp2_with fail
    refine (KF.out _ HR1.out).mono ?_
    rintro e w4 ⟨rfl, g1, g2⟩
    have HR4 := Lib.hid g1
    have HW4 := Lib.hid g2
    clear g1 g2
    go_wp2
    first | exact HRES.out _ HR4.out (HW1.out.trans HW4.out) | (go_ret; exact HRES.out _ HR4.out (HW1.out.trans HW4.out))
  rw [if_neg c3] at hU0
  obtain ⟨m, hm⟩ : ∃ m : Nat, n = 239 + m := ⟨n - 239, by omega⟩
  have hm1 : 1 ≤ m := by omega
  have hm8 : m ≤ 8 := by omega
  rw [show n - 239 = m from by omega] at hU0
  have HMI : Hid ((m : Int) = (n : Int) - 239) := by (show _ = _; omega)
  have hm8g : ¬ (8 : Int) < (n : Int) - 239 := by omega
  clear hm
  have KLe := Lib.hid (fun W => bin_least m hm1 hm8 W)
  rw [HMI.out] at KLe
  have hle : 0 < leastN m ∧ leastN m < 18446744073709551616 := by
    unfold leastN
    split
    · omega
    · have : 256 ^ (m - 1) ≤ 256 ^ 7 := Nat.pow_le_pow_right (by omega) (by omega)
      have : 0 < 256 ^ (m - 1) := Nat.pow_pos (by omega)
      omega
  by_cases c4 : b.length - k - 1 < m
  · rw [if_pos c4] at hU0
    have KN2 := Lib.hid (fun W (h1 : RdAt W B g b (k + 1) 0) => rd_next_short h1 m (by omega) (by omega))
    rw [HMI.out] at KN2
    have KJ0 : Hid (∀ W, Calls Tryz.prog 101 #[.slice none 0 0] W fun e w' => e = .returned (.int .u64 0) ∧ W = w') := fun W => bin_joined' [] none 0 0 0 W rfl LiesY.nil byt.nil (by omega)
    have KF := Lib.hid (fun W (h1 : RdAt W B g b (k + 1) (failE 0 210)) => rd_Fail h1 211)
    have HRES : Hid (∀ W, RdAt W B g b (k + 1) (failE (failE 0 210) 211) → Wr g w W → NumR w B g b k (.returned (.int .u64 0)) W) := fun W h1 h2 => ⟨0, k + 1, 210, rfl, by omega, h1, h2, by rw [hU0], fun h => by omega⟩
    clear hU0 h
    generalize NumR w B g b k = R at *
    generalize failE (failE 0 210) 211 = e9 at *
    generalize failE 0 210 = e8 at *
    generalize leastN m = lm at *
    have hlg : (0 : Int) < (lm : Int) := by omega
    go_enter Tryz.func86, Tryz.ntmps86
    go_wp2_with fail
    refine (KN1.out).mono ?_
    rintro e w1 ⟨A1, c1, rfl, g1, g2, g3, -, -⟩
    have HR1 := Lib.hid g1
    have HW1 := Lib.hid g2
    have HL1 := Lib.hid g3
    clear g1 g2 g3
    go_wp2_with fail
    refine (KJ1.out _ _ _ HL1.out).mono ?_
    rintro e w2 ⟨rfl, rfl⟩
    go_wp2_with fail
    refine (KH.out _).mono ?_
    rintro e w3 ⟨rfl, rfl⟩
    go_wp2_with fail
    refine (KN2.out _ HR1.out).mono ?_
    rintro e w4 ⟨rfl, g1, g2⟩
    have HR4 := Lib.hid g1
    have HW4 := Lib.hid g2
    clear g1 g2
    go_wp2_with fail
    refine (KJ0.out _).mono ?_
    rintro e w5 ⟨rfl, rfl⟩
    go_wp2_with fail
    refine (KLe.out _).mono ?_
    rintro e w6 ⟨rfl, rfl⟩
    go_wp2_with fail
    refine (KF.out _ HR4.out).mono ?_
    rintro e w7 ⟨rfl, g1, g2⟩
    have HR7 := Lib.hid g1
    have HW7 := Lib.hid g2
    clear g1 g2
    go_wp2
    first | exact HRES.out _ HR7.out ((HW1.out.trans HW4.out).trans HW7.out) | (go_ret; exact HRES.out _ HR7.out ((HW1.out.trans HW4.out).trans HW7.out))
  rw [if_neg c4] at hU0
  have hTl : ((b.drop (k + 1)).take m).length = m := by rw [List.length_take, List.length_drop]; omega
  have hTy := (hby.drop (k + 1)).take m
  have KN2 := Lib.hid (fun W (h1 : RdAt W B g b (k + 1) 0) => rd_next_ok h1 m (by omega))
  rw [HMI.out] at KN2
  have KJ2 := Lib.hid (fun W A c (hL : LiesY W W.heap.size A ((b.drop (k + 1)).take m)) => bin_joined' _ A m c W.heap.size W hTl hL hTy hm8)
  have hJ : joinN ((b.drop (k + 1)).take m) < 18446744073709551616 := by
    have h1 := joinN_lt m _ hTl hTy
    have h2 : 256 ^ m ≤ 256 ^ 8 := Nat.pow_le_pow_right (by omega) hm8
    omega
  generalize (b.drop (k + 1)).take m = T at *
  generalize joinN T = J at *
  by_cases c5 : J < leastN m
  · rw [if_pos c5] at hU0
    have KF := Lib.hid (fun W (h1 : RdAt W B g b (k + 1 + m) 0) => rd_Fail h1 211)
    have HRES : Hid (∀ W, RdAt W B g b (k + 1 + m) (failE 0 211) → Wr g w W → NumR w B g b k (.returned (.int .u64 J)) W) := fun W h1 h2 => ⟨J, k + 1 + m, 211, rfl, hJ, h1, h2, by rw [hU0], fun h => by omega⟩
    clear hU0 h
    generalize NumR w B g b k = R at *
    generalize failE 0 211 = e8 at *
    generalize leastN m = lm at *
    have hlg : (J : Int) < (lm : Int) := by omega
    go_enter Tryz.func86, Tryz.ntmps86
    go_wp2_with fail
    refine (KN1.out).mono ?_
    rintro e w1 ⟨A1, c1, rfl, g1, g2, g3, -, -⟩
    have HR1 := Lib.hid g1
    have HW1 := Lib.hid g2
    have HL1 := Lib.hid g3
    clear g1 g2 g3
    go_wp2_with fail
    refine (KJ1.out _ _ _ HL1.out).mono ?_
    rintro e w2 ⟨rfl, rfl⟩
    go_wp2_with fail
    refine (KH.out _).mono ?_
    rintro e w3 ⟨rfl, rfl⟩
    go_wp2_with fail
    refine (KN2.out _ HR1.out).mono ?_
    rintro e w4 ⟨A4, c4, rfl, g1, g2, g3, -, -⟩
    have HR4 := Lib.hid g1
    have HW4 := Lib.hid g2
    have HL4 := Lib.hid g3
    clear g1 g2 g3
    go_wp2_with fail
    refine (KJ2.out _ _ _ HL4.out).mono ?_
    rintro e w5 ⟨rfl, rfl⟩
    go_wp2_with fail
    refine (KLe.out _).mono ?_
    rintro e w6 ⟨rfl, rfl⟩
    go_wp2_with fail
    refine (KF.out _ HR4.out).mono ?_
    rintro e w7 ⟨rfl, g1, g2⟩
    have HR7 := Lib.hid g1
    have HW7 := Lib.hid g2
    clear g1 g2
    go_wp2
    first | exact HRES.out _ HR7.out ((HW1.out.trans HW4.out).trans HW7.out) | (go_ret; exact HRES.out _ HR7.out ((HW1.out.trans HW4.out).trans HW7.out))
  · rw [if_neg c5] at hU0
    have HRES : Hid (∀ W, RdAt W B g b (k + 1 + m) 0 → Wr g w W → NumR w B g b k (.returned (.int .u64 J)) W) := fun W h1 h2 => ⟨J, k + 1 + m, 0, rfl, hJ, h1, h2, by rw [hU0], fun h => by rw [hU0]; exact ⟨rfl, rfl⟩⟩
    clear hU0 h
    generalize NumR w B g b k = R at *
    generalize leastN m = lm at *
    have hlg : ¬ (J : Int) < (lm : Int) := by omega
    go_enter Tryz.func86, Tryz.ntmps86
    go_wp2_with fail
    refine (KN1.out).mono ?_
    rintro e w1 ⟨A1, c1, rfl, g1, g2, g3, -, -⟩
    have HR1 := Lib.hid g1
    have HW1 := Lib.hid g2
    have HL1 := Lib.hid g3
    clear g1 g2 g3
    go_wp2_with fail
    refine (KJ1.out _ _ _ HL1.out).mono ?_
    rintro e w2 ⟨rfl, rfl⟩
    go_wp2_with fail
    refine (KH.out _).mono ?_
    rintro e w3 ⟨rfl, rfl⟩
    go_wp2_with fail
    refine (KN2.out _ HR1.out).mono ?_
    rintro e w4 ⟨A4, c4, rfl, g1, g2, g3, -, -⟩
    have HR4 := Lib.hid g1
    have HW4 := Lib.hid g2
    have HL4 := Lib.hid g3
    clear g1 g2 g3
    go_wp2_with fail
    refine (KJ2.out _ _ _ HL4.out).mono ?_
    rintro e w5 ⟨rfl, rfl⟩
    go_wp2_with fail
    refine (KLe.out _).mono ?_
    rintro e w6 ⟨rfl, rfl⟩
    go_wp2
    first | exact HRES.out _ HR4.out (HW1.out.trans HW4.out) | (go_ret; exact HRES.out _ HR4.out (HW1.out.trans HW4.out))
theorem bin_unfolded (n : Nat) (hn : n < 18446744073709551616) (w : World) : Calls Tryz.prog 74 #[.int .u64 n] w fun e w' => e = .returned (.int .i64 (unfoldI n)) ∧ w = w' := by
  have hh : wrap64 ((n : Int) / 2) = (n : Int) / 2 := by unfold wrap64; omega
  by_cases h : n % 2 = 1
  · have hg : (0 : Int) < (n : Int) % 2 := by omega
    have hf : unfoldI n = -((n : Int) / 2) - 1 := by unfold unfoldI; rw [if_pos h]; omega
    rw [hf]
    go_enter Tryz.func74, Tryz.ntmps74
    go_wp2
    go_ret
    refine ⟨ret1i ?_, rfl⟩
    first | rfl | omega | (unfold wrap64 at *; omega)
  · have hg : ¬ (0 : Int) < (n : Int) % 2 := by omega
    have hf : unfoldI n = (n : Int) / 2 := by unfold unfoldI; rw [if_neg h]; omega
    rw [hf]
    go_enter Tryz.func74, Tryz.ntmps74
    go_wp2
    go_ret
    refine ⟨ret1i ?_, rfl⟩
    first | rfl | omega | (unfold wrap64 at *; omega)
end Go.Proofs.YtpoemflclbhekaaGreat

/-! Layer 21 (bin): what a reader reads: the deferred reset. -/
namespace Go.Proofs.YtpoemflclbhekaaGreat
open Go.RowKit
set_option linter.unusedVariables false
set_option linter.unusedSimpArgs false

/-- what a part gives: a value, where it stands, how it failed -/
def PartR_u64 (g B : Nat) (b : List Int) (PR : Value → World → Nat → Int → Prop) (X : World) (e : Ending) (w' : World) : Prop :=
  ∃ (x : Int) (k2 : Nat) (e2 : Int), e = .returned (.int .u64 x) ∧ RdAt w' B g b k2 e2 ∧ Wr g X w' ∧ PR (.int .u64 x) w' k2 e2
/-- what read gives -/
def ReadR_u64 (g B k : Nat) (b : List Int) (PR : Value → World → Nat → Int → Prop) (w : World) (e : Ending) (w' : World) : Prop :=
  ∃ (x : Int) (k2 : Nat) (e2 : Int) (X1 : World), PR (.int .u64 x) X1 k2 e2 ∧ Wr g w w' ∧ X1.heap.size = w'.heap.size ∧ (∀ j, w.heap.size + 2 < j → j ≠ g → w'.heap[j]? = X1.heap[j]?) ∧
    (e2 = 0 → e = .returned (.int .u64 x) ∧ RdAt w' B g b k2 0) ∧ (e2 ≠ 0 → e = .returned (.int .u64 0) ∧ RdAt w' B g b k e2)
theorem d_ok_u64 {X : World} {B g k2 rb ab gb : Nat} {b : List Int} (u : FrameMode) (h : RdAt X B g b k2 0) (hr : X.cell? ⟨rb, 0, none⟩ = some (.pointer (some ⟨g, 0, none⟩))) :
    CallsD Tryz.prog 100 #[.pointer (some ⟨rb, 0, none⟩), .pointer (some ⟨ab, 0, none⟩), .pointer (some ⟨gb, 0, none⟩)] u X fun e u' w' => u' = u ∧ (e = .returned (.tuple #[]) ∧ w' = X) := by
  obtain ⟨A, c, c0, c1, c2, f1, f2⟩ := h.cells
  clear h
  go_enter_d Tryz.func100, Tryz.ntmps100
  go_wp2
  go_end0
  exact ⟨rfl, rfl⟩
theorem d_bad_u64 {X : World} {B g k2 k rb ab gb : Nat} {b : List Int} {e2 : Int} {v : Value} (u : FrameMode) (h : RdAt X B g b k2 e2) (he : e2 ≠ 0) (hr : X.cell? ⟨rb, 0, none⟩ = some (.pointer (some ⟨g, 0, none⟩))) (ha : X.cell? ⟨ab, 0, none⟩ = some (.int .i64 (k : Nat))) (hg : X.cell? ⟨gb, 0, none⟩ = some v) (hgf : X.frozen? ⟨gb, 0, none⟩ = false) (hne : gb ≠ g) :
    CallsD Tryz.prog 100 #[.pointer (some ⟨rb, 0, none⟩), .pointer (some ⟨ab, 0, none⟩), .pointer (some ⟨gb, 0, none⟩)] u X fun e u' w' => u' = u ∧ (e = .returned (.tuple #[]) ∧ w' = (X.setCell ⟨g, 1, none⟩ (.int .i64 (k : Nat))).setCell ⟨gb, 0, none⟩ (.int .u64 0)) := by
  obtain ⟨A, c, c0, c1, c2, f1, f2⟩ := h.cells
  have heb : (e2 != 0) = true := by simpa using he
  have hga : (X.setCell ⟨g, 1, none⟩ (.int .i64 (k : Nat))).cell? ⟨gb, 0, none⟩ = some v := by
    rw [World.cell?_setCell_other X ⟨g, 1, none⟩ ⟨gb, 0, none⟩ _ (by first | (simp; done) | (simp; omega))]; exact hg
  clear h he
  go_enter_d Tryz.func100, Tryz.ntmps100
  go_wp2
  go_end0
  exact ⟨rfl, rfl⟩
set_option maxRecDepth 100000 in
set_option maxHeartbeats 4000000 in
theorem read_ok_u64 {w : World} {B g k : Nat} {b : List Int} (PR : Value → World → Nat → Int → Prop) (h : RdAt w B g b k 0) (K : ∀ X, RdAt X B g b k 0 → Below w.heap.size w X → X.heap.size = w.heap.size + 3 → Calls Tryz.prog 86 #[.pointer (some ⟨g, 0, none⟩)] X (PartR_u64 g B b PR X)) :
    Calls Tryz.prog 85 #[.pointer (some ⟨g, 0, none⟩), .func (.func 86) #[.pointer (some ⟨g, 0, none⟩)] #[]] w (ReadR_u64 g B k b PR w) := by
  have hmf : ∀ (fn : Fn) (first cap : Array Value) (w : World), (Instr.makeFunc fn first cap).run Tryz.prog w = .ok (.func fn first cap) w := fun _ _ _ _ => rfl
  have HX := Lib.hid (((Kpc.start w).alloc #[.pointer (some ⟨g, 0, none⟩)] 29).alloc #[.int .u64 0] 67)
  rw [alloc_size'] at HX
  obtain ⟨hg, hBg, hk, -, -⟩ := h.lt
  have KE := Lib.hid (rd_Err (h.below HX.out.2.1))
  obtain ⟨A0, cc0, c0, c1, c2, -, -⟩ := (h.below HX.out.2.1).cells
  have x0 := (HX.out.tail.head.cell 0).trans rfl
  have HS2 : Hid (((w.alloc (.cells #[.pointer (some ⟨g, 0, none⟩)] 29)).alloc (.cells #[.int .u64 0] 67)).heap.size = w.heap.size + 2) := by
    show _ = _
    rw [alloc_size', alloc_size']
  have HR := Lib.hid h
  have KP := Lib.hid K
  clear h K
  go_enter_defers Tryz.func85, Tryz.ntmps85
  go_wp2_with fail
  refine (KE.out).mono ?_
  rintro e w' ⟨rfl, rfl⟩
  have HX3 := Lib.hid (HX.out.alloc #[.int .i64 (k : Nat)] 3)
  rw [HS2.out] at HX3
  have HS3 : Hid ((((w.alloc (.cells #[.pointer (some ⟨g, 0, none⟩)] 29)).alloc (.cells #[.int .u64 0] 67)).alloc (.cells #[.int .i64 (k : Nat)] 3)).heap.size = w.heap.size + 3) := by
    show _ = _
    rw [alloc_size', HS2.out]
  have KP1 := Lib.hid (KP.out _ (HR.out.below HX3.out.2.1) HX3.out.2.1 HS3.out)
  go_wp2_with fail
  refine (KP1.out).mono ?_
  rintro e X1 ⟨x, k2, e2, rfl, hR, hW, hPR⟩
  have B0 := Lib.hid (hW.box HX3.out.tail.tail.head (by omega))
  have B1 := Lib.hid (hW.box HX3.out.tail.head (by omega))
  have B2 := Lib.hid (hW.box HX3.out.head (by omega))
  have y1 := (B1.out.cell 0).trans rfl
  have yf := B1.out.free 0
  have HW := Lib.hid ((Wr.of g HX3.out.2.1).trans hW)
  have HR1 := Lib.hid hR
  have HP := Lib.hid hPR
  clear hR hW hPR x0 c0 c1 c2 KP1 KP KE HX HX3 HS2 HS3
  go_wp2
  have HRs := Lib.hid (HR1.out.wr (Wr.set (w.heap.size + 1) 0 X1 (.int .u64 x)) (by omega))
  have HB0 := Lib.hid (B0.out.off (p := ⟨w.heap.size + 1, 0, none⟩) (show w.heap.size + 1 ≠ w.heap.size by omega) (.int .u64 x))
  have HB1 := Lib.hid (B1.out.set 0 (.int .u64 x))
  have HB2 := Lib.hid (B2.out.off (p := ⟨w.heap.size + 1, 0, none⟩) (show w.heap.size + 1 ≠ w.heap.size + 2 by omega) (.int .u64 x))
  have HWs : Hid (Wr g w (X1.setCell ⟨w.heap.size + 1, 0, none⟩ (.int .u64 x))) := by
    have hw := HW.out
    refine ⟨hw.os, hw.tape, hw.output, by simp [World.setCell]; exact hw.size, fun j hj hjg => ?_⟩
    rw [Below.heap_setCell _ _ _ _ (by show j ≠ w.heap.size + 1; omega)]
    exact hw.block j hj hjg
  have HXs : Hid (X1.heap.size = (X1.setCell ⟨w.heap.size + 1, 0, none⟩ (.int .u64 x)).heap.size) := by (show _ = _; simp [World.setCell])
  have HXj : Hid (∀ j, w.heap.size + 2 < j → j ≠ g → (X1.setCell ⟨w.heap.size + 1, 0, none⟩ (.int .u64 x)).heap[j]? = X1.heap[j]?) := fun j hj _ => Below.heap_setCell _ _ _ _ (by show j ≠ w.heap.size + 1; omega)
  refine leaves_cons (f := 100) (args := #[.pointer (some ⟨w.heap.size, 0, none⟩), .pointer (some ⟨w.heap.size + 1 + 1, 0, none⟩), .pointer (some ⟨w.heap.size + 1, 0, none⟩)]) (by simp) (by simp [go_sem]) ?_
  have q0 := (HB0.out.cell 0).trans rfl
  have q1 := (HB1.out.cell 0).trans rfl
  have q2 := (HB2.out.cell 0).trans rfl
  by_cases he : e2 = 0
  · subst he
    refine (d_ok_u64 .returning HRs.out q0).mono ?_
    rintro e u' w'' ⟨rfl, rfl, rfl⟩
    refine ⟨.int .u64 x, ?_, x, k2, 0, X1, HP.out, HWs.out, HXs.out, HXj.out, fun _ => ⟨rfl, HRs.out⟩, fun h => absurd rfl h⟩
    simp only [results, show Tryz.f85.results = #[.cell 4 67] from rfl]
    go_simp
  · refine (d_bad_u64 .returning HRs.out he q0 q2 q1 (HB1.out.free 0) (by omega)).mono ?_
    rintro e u' w'' ⟨rfl, rfl, rfl⟩
    have HRz : RdAt (((X1.setCell ⟨w.heap.size + 1, 0, none⟩ (.int .u64 x)).setCell ⟨g, 1, none⟩ (.int .i64 (k : Nat))).setCell ⟨w.heap.size + 1, 0, none⟩ (.int .u64 0)) B g b k e2 := (HRs.out.to k hk).wr (Wr.set (w.heap.size + 1) 0 _ _) (by omega)
    have HWz : Wr g w (((X1.setCell ⟨w.heap.size + 1, 0, none⟩ (.int .u64 x)).setCell ⟨g, 1, none⟩ (.int .i64 (k : Nat))).setCell ⟨w.heap.size + 1, 0, none⟩ (.int .u64 0)) := by
      have hw := HWs.out.trans (Wr.set g 1 _ (.int .i64 (k : Nat)))
      refine ⟨hw.os, hw.tape, hw.output, by have := hw.size; simp [World.setCell] at this ⊢; exact this, fun j hj hjg => ?_⟩
      rw [Below.heap_setCell _ _ _ _ (by show j ≠ w.heap.size + 1; omega)]
      exact hw.block j hj hjg
    have q3 := ((HB1.out.off (p := ⟨g, 1, none⟩) (show g ≠ w.heap.size + 1 by omega) (.int .i64 (k : Nat))).set 0 (.int .u64 0)).cell 0
    refine ⟨.int .u64 0, ?_, x, k2, e2, X1, HP.out, HWz, ?_, fun j hj hjg => ?_, fun h => absurd h he, fun _ => ⟨rfl, HRz⟩⟩
    · simp only [results, show Tryz.f85.results = #[.cell 4 67] from rfl]
      simp at q3
      go_simp
    · rw [HXs.out]; simp [World.setCell]
    · rw [Below.heap_setCell _ _ _ _ (by show j ≠ w.heap.size + 1; omega), Below.heap_setCell _ _ _ _ hjg]
      exact HXj.out j hj hjg
set_option maxRecDepth 100000 in
set_option maxHeartbeats 4000000 in
theorem read_no_u64 {w : World} {B g k : Nat} {b : List Int} {e0 : Int} (h : RdAt w B g b k e0) (he : e0 ≠ 0) (fv : Value) :
    Calls Tryz.prog 85 #[.pointer (some ⟨g, 0, none⟩), fv] w fun e w' => e = .returned (.int .u64 0) ∧ RdAt w' B g b k e0 ∧ Wr g w w' := by
  have HX := Lib.hid (((Kpc.start w).alloc #[.pointer (some ⟨g, 0, none⟩)] 29).alloc #[.int .u64 0] 67)
  rw [alloc_size'] at HX
  have KE := Lib.hid (rd_Err (h.below HX.out.2.1))
  have x0 := (HX.out.tail.head.cell 0).trans rfl
  have x1 := (HX.out.head.cell 0).trans rfl
  have xf := HX.out.head.free 0
  have heb : (e0 != 0) = true := by simpa using he
  have HR := Lib.hid (h.below HX.out.2.1)
  clear h he
  go_enter_defers Tryz.func85, Tryz.ntmps85
  go_wp2_with fail
  refine (KE.out).mono ?_
  rintro e w' ⟨rfl, rfl⟩
  go_wp2
  refine ⟨.int .u64 0, ?_, rfl, HR.out, Wr.of g HX.out.2.1⟩
  simp only [results, show Tryz.f85.results = #[.cell 4 67] from rfl]
  go_simp
set_option maxRecDepth 100000 in
set_option maxHeartbeats 4000000 in
theorem read_nil_u64 (fv : Value) (w : World) :
    Calls Tryz.prog 85 #[.pointer none, fv] w fun e w' => e = .returned (.int .u64 0) ∧ Below w.heap.size w w' := by
  have HX := Lib.hid (((Kpc.start w).alloc #[.pointer none] 29).alloc #[.int .u64 0] 67)
  rw [alloc_size'] at HX
  have KE := Lib.hid (fun W => rd_Err_nil W)
  have x0 := (HX.out.tail.head.cell 0).trans rfl
  have x1 := (HX.out.head.cell 0).trans rfl
  have xf := HX.out.head.free 0
  go_enter_defers Tryz.func85, Tryz.ntmps85
  go_wp2_with fail
  refine (KE.out _).mono ?_
  rintro e w' ⟨rfl, rfl⟩
  go_wp2
  refine ⟨.int .u64 0, ?_, rfl, HX.out.2.1⟩
  simp only [results, show Tryz.f85.results = #[.cell 4 67] from rfl]
  go_simp
/-- what a part gives: a value, where it stands, how it failed -/
def PartR_int (g B : Nat) (b : List Int) (PR : Value → World → Nat → Int → Prop) (X : World) (e : Ending) (w' : World) : Prop :=
  ∃ (x : Int) (k2 : Nat) (e2 : Int), e = .returned (.int .i64 x) ∧ RdAt w' B g b k2 e2 ∧ Wr g X w' ∧ PR (.int .i64 x) w' k2 e2
/-- what read gives -/
def ReadR_int (g B k : Nat) (b : List Int) (PR : Value → World → Nat → Int → Prop) (w : World) (e : Ending) (w' : World) : Prop :=
  ∃ (x : Int) (k2 : Nat) (e2 : Int) (X1 : World), PR (.int .i64 x) X1 k2 e2 ∧ Wr g w w' ∧ X1.heap.size = w'.heap.size ∧ (∀ j, w.heap.size + 2 < j → j ≠ g → w'.heap[j]? = X1.heap[j]?) ∧
    (e2 = 0 → e = .returned (.int .i64 x) ∧ RdAt w' B g b k2 0) ∧ (e2 ≠ 0 → e = .returned (.int .i64 0) ∧ RdAt w' B g b k e2)
theorem d_ok_int {X : World} {B g k2 rb ab gb : Nat} {b : List Int} (u : FrameMode) (h : RdAt X B g b k2 0) (hr : X.cell? ⟨rb, 0, none⟩ = some (.pointer (some ⟨g, 0, none⟩))) :
    CallsD Tryz.prog 84 #[.pointer (some ⟨rb, 0, none⟩), .pointer (some ⟨ab, 0, none⟩), .pointer (some ⟨gb, 0, none⟩)] u X fun e u' w' => u' = u ∧ (e = .returned (.tuple #[]) ∧ w' = X) := by
  obtain ⟨A, c, c0, c1, c2, f1, f2⟩ := h.cells
  clear h
  go_enter_d Tryz.func84, Tryz.ntmps84
  go_wp2
  go_end0
  exact ⟨rfl, rfl⟩
theorem d_bad_int {X : World} {B g k2 k rb ab gb : Nat} {b : List Int} {e2 : Int} {v : Value} (u : FrameMode) (h : RdAt X B g b k2 e2) (he : e2 ≠ 0) (hr : X.cell? ⟨rb, 0, none⟩ = some (.pointer (some ⟨g, 0, none⟩))) (ha : X.cell? ⟨ab, 0, none⟩ = some (.int .i64 (k : Nat))) (hg : X.cell? ⟨gb, 0, none⟩ = some v) (hgf : X.frozen? ⟨gb, 0, none⟩ = false) (hne : gb ≠ g) :
    CallsD Tryz.prog 84 #[.pointer (some ⟨rb, 0, none⟩), .pointer (some ⟨ab, 0, none⟩), .pointer (some ⟨gb, 0, none⟩)] u X fun e u' w' => u' = u ∧ (e = .returned (.tuple #[]) ∧ w' = (X.setCell ⟨g, 1, none⟩ (.int .i64 (k : Nat))).setCell ⟨gb, 0, none⟩ (.int .i64 0)) := by
  obtain ⟨A, c, c0, c1, c2, f1, f2⟩ := h.cells
  have heb : (e2 != 0) = true := by simpa using he
  have hga : (X.setCell ⟨g, 1, none⟩ (.int .i64 (k : Nat))).cell? ⟨gb, 0, none⟩ = some v := by
    rw [World.cell?_setCell_other X ⟨g, 1, none⟩ ⟨gb, 0, none⟩ _ (by first | (simp; done) | (simp; omega))]; exact hg
  clear h he
  go_enter_d Tryz.func84, Tryz.ntmps84
  go_wp2
  go_end0
  exact ⟨rfl, rfl⟩
set_option maxRecDepth 100000 in
set_option maxHeartbeats 4000000 in
theorem read_ok_int {w : World} {B g k : Nat} {b : List Int} (pa pb : Nat) (PR : Value → World → Nat → Int → Prop) (h : RdAt w B g b k 0) (K : ∀ X, RdAt X B g b k 0 → Below w.heap.size w X → X.heap.size = w.heap.size + 3 → Calls Tryz.prog 66 #[.pointer (some ⟨pa, 0, none⟩), .pointer (some ⟨pb, 0, none⟩)] X (PartR_int g B b PR X)) :
    Calls Tryz.prog 65 #[.pointer (some ⟨g, 0, none⟩), .func (.func 66) #[] #[.pointer (some ⟨pa, 0, none⟩), .pointer (some ⟨pb, 0, none⟩)]] w (ReadR_int g B k b PR w) := by
  have hmf : ∀ (fn : Fn) (first cap : Array Value) (w : World), (Instr.makeFunc fn first cap).run Tryz.prog w = .ok (.func fn first cap) w := fun _ _ _ _ => rfl
  have HX := Lib.hid (((Kpc.start w).alloc #[.pointer (some ⟨g, 0, none⟩)] 29).alloc #[.int .i64 0] 3)
  rw [alloc_size'] at HX
  obtain ⟨hg, hBg, hk, -, -⟩ := h.lt
  have KE := Lib.hid (rd_Err (h.below HX.out.2.1))
  obtain ⟨A0, cc0, c0, c1, c2, -, -⟩ := (h.below HX.out.2.1).cells
  have x0 := (HX.out.tail.head.cell 0).trans rfl
  have HS2 : Hid (((w.alloc (.cells #[.pointer (some ⟨g, 0, none⟩)] 29)).alloc (.cells #[.int .i64 0] 3)).heap.size = w.heap.size + 2) := by
    show _ = _
    rw [alloc_size', alloc_size']
  have HR := Lib.hid h
  have KP := Lib.hid K
  clear h K
  go_enter_defers Tryz.func65, Tryz.ntmps65
  go_wp2_with fail
  refine (KE.out).mono ?_
  rintro e w' ⟨rfl, rfl⟩
  have HX3 := Lib.hid (HX.out.alloc #[.int .i64 (k : Nat)] 3)
  rw [HS2.out] at HX3
  have HS3 : Hid ((((w.alloc (.cells #[.pointer (some ⟨g, 0, none⟩)] 29)).alloc (.cells #[.int .i64 0] 3)).alloc (.cells #[.int .i64 (k : Nat)] 3)).heap.size = w.heap.size + 3) := by
    show _ = _
    rw [alloc_size', HS2.out]
  have KP1 := Lib.hid (KP.out _ (HR.out.below HX3.out.2.1) HX3.out.2.1 HS3.out)
  go_wp2_with fail
  refine (KP1.out).mono ?_
  rintro e X1 ⟨x, k2, e2, rfl, hR, hW, hPR⟩
  have B0 := Lib.hid (hW.box HX3.out.tail.tail.head (by omega))
  have B1 := Lib.hid (hW.box HX3.out.tail.head (by omega))
  have B2 := Lib.hid (hW.box HX3.out.head (by omega))
  have y1 := (B1.out.cell 0).trans rfl
  have yf := B1.out.free 0
  have HW := Lib.hid ((Wr.of g HX3.out.2.1).trans hW)
  have HR1 := Lib.hid hR
  have HP := Lib.hid hPR
  clear hR hW hPR x0 c0 c1 c2 KP1 KP KE HX HX3 HS2 HS3
  go_wp2
  have HRs := Lib.hid (HR1.out.wr (Wr.set (w.heap.size + 1) 0 X1 (.int .i64 x)) (by omega))
  have HB0 := Lib.hid (B0.out.off (p := ⟨w.heap.size + 1, 0, none⟩) (show w.heap.size + 1 ≠ w.heap.size by omega) (.int .i64 x))
  have HB1 := Lib.hid (B1.out.set 0 (.int .i64 x))
  have HB2 := Lib.hid (B2.out.off (p := ⟨w.heap.size + 1, 0, none⟩) (show w.heap.size + 1 ≠ w.heap.size + 2 by omega) (.int .i64 x))
  have HWs : Hid (Wr g w (X1.setCell ⟨w.heap.size + 1, 0, none⟩ (.int .i64 x))) := by
    have hw := HW.out
    refine ⟨hw.os, hw.tape, hw.output, by simp [World.setCell]; exact hw.size, fun j hj hjg => ?_⟩
    rw [Below.heap_setCell _ _ _ _ (by show j ≠ w.heap.size + 1; omega)]
    exact hw.block j hj hjg
  have HXs : Hid (X1.heap.size = (X1.setCell ⟨w.heap.size + 1, 0, none⟩ (.int .i64 x)).heap.size) := by (show _ = _; simp [World.setCell])
  have HXj : Hid (∀ j, w.heap.size + 2 < j → j ≠ g → (X1.setCell ⟨w.heap.size + 1, 0, none⟩ (.int .i64 x)).heap[j]? = X1.heap[j]?) := fun j hj _ => Below.heap_setCell _ _ _ _ (by show j ≠ w.heap.size + 1; omega)
  refine leaves_cons (f := 84) (args := #[.pointer (some ⟨w.heap.size, 0, none⟩), .pointer (some ⟨w.heap.size + 1 + 1, 0, none⟩), .pointer (some ⟨w.heap.size + 1, 0, none⟩)]) (by simp) (by simp [go_sem]) ?_
  have q0 := (HB0.out.cell 0).trans rfl
  have q1 := (HB1.out.cell 0).trans rfl
  have q2 := (HB2.out.cell 0).trans rfl
  by_cases he : e2 = 0
  · subst he
    refine (d_ok_int .returning HRs.out q0).mono ?_
    rintro e u' w'' ⟨rfl, rfl, rfl⟩
    refine ⟨.int .i64 x, ?_, x, k2, 0, X1, HP.out, HWs.out, HXs.out, HXj.out, fun _ => ⟨rfl, HRs.out⟩, fun h => absurd rfl h⟩
    simp only [results, show Tryz.f65.results = #[.cell 4 3] from rfl]
    go_simp
  · refine (d_bad_int .returning HRs.out he q0 q2 q1 (HB1.out.free 0) (by omega)).mono ?_
    rintro e u' w'' ⟨rfl, rfl, rfl⟩
    have HRz : RdAt (((X1.setCell ⟨w.heap.size + 1, 0, none⟩ (.int .i64 x)).setCell ⟨g, 1, none⟩ (.int .i64 (k : Nat))).setCell ⟨w.heap.size + 1, 0, none⟩ (.int .i64 0)) B g b k e2 := (HRs.out.to k hk).wr (Wr.set (w.heap.size + 1) 0 _ _) (by omega)
    have HWz : Wr g w (((X1.setCell ⟨w.heap.size + 1, 0, none⟩ (.int .i64 x)).setCell ⟨g, 1, none⟩ (.int .i64 (k : Nat))).setCell ⟨w.heap.size + 1, 0, none⟩ (.int .i64 0)) := by
      have hw := HWs.out.trans (Wr.set g 1 _ (.int .i64 (k : Nat)))
      refine ⟨hw.os, hw.tape, hw.output, by have := hw.size; simp [World.setCell] at this ⊢; exact this, fun j hj hjg => ?_⟩
      rw [Below.heap_setCell _ _ _ _ (by show j ≠ w.heap.size + 1; omega)]
      exact hw.block j hj hjg
    have q3 := ((HB1.out.off (p := ⟨g, 1, none⟩) (show g ≠ w.heap.size + 1 by omega) (.int .i64 (k : Nat))).set 0 (.int .i64 0)).cell 0
    refine ⟨.int .i64 0, ?_, x, k2, e2, X1, HP.out, HWz, ?_, fun j hj hjg => ?_, fun h => absurd h he, fun _ => ⟨rfl, HRz⟩⟩
    · simp only [results, show Tryz.f65.results = #[.cell 4 3] from rfl]
      simp at q3
      go_simp
    · rw [HXs.out]; simp [World.setCell]
    · rw [Below.heap_setCell _ _ _ _ (by show j ≠ w.heap.size + 1; omega), Below.heap_setCell _ _ _ _ hjg]
      exact HXj.out j hj hjg
set_option maxRecDepth 100000 in
set_option maxHeartbeats 4000000 in
theorem read_no_int {w : World} {B g k : Nat} {b : List Int} {e0 : Int} (h : RdAt w B g b k e0) (he : e0 ≠ 0) (fv : Value) :
    Calls Tryz.prog 65 #[.pointer (some ⟨g, 0, none⟩), fv] w fun e w' => e = .returned (.int .i64 0) ∧ RdAt w' B g b k e0 ∧ Wr g w w' := by
  have HX := Lib.hid (((Kpc.start w).alloc #[.pointer (some ⟨g, 0, none⟩)] 29).alloc #[.int .i64 0] 3)
  rw [alloc_size'] at HX
  have KE := Lib.hid (rd_Err (h.below HX.out.2.1))
  have x0 := (HX.out.tail.head.cell 0).trans rfl
  have x1 := (HX.out.head.cell 0).trans rfl
  have xf := HX.out.head.free 0
  have heb : (e0 != 0) = true := by simpa using he
  have HR := Lib.hid (h.below HX.out.2.1)
  clear h he
  go_enter_defers Tryz.func65, Tryz.ntmps65
  go_wp2_with fail
  refine (KE.out).mono ?_
  rintro e w' ⟨rfl, rfl⟩
  go_wp2
  refine ⟨.int .i64 0, ?_, rfl, HR.out, Wr.of g HX.out.2.1⟩
  simp only [results, show Tryz.f65.results = #[.cell 4 3] from rfl]
  go_simp
set_option maxRecDepth 100000 in
set_option maxHeartbeats 4000000 in
theorem read_nil_int (fv : Value) (w : World) :
    Calls Tryz.prog 65 #[.pointer none, fv] w fun e w' => e = .returned (.int .i64 0) ∧ Below w.heap.size w w' := by
  have HX := Lib.hid (((Kpc.start w).alloc #[.pointer none] 29).alloc #[.int .i64 0] 3)
  rw [alloc_size'] at HX
  have KE := Lib.hid (fun W => rd_Err_nil W)
  have x0 := (HX.out.tail.head.cell 0).trans rfl
  have x1 := (HX.out.head.cell 0).trans rfl
  have xf := HX.out.head.free 0
  go_enter_defers Tryz.func65, Tryz.ntmps65
  go_wp2_with fail
  refine (KE.out _).mono ?_
  rintro e w' ⟨rfl, rfl⟩
  go_wp2
  refine ⟨.int .i64 0, ?_, rfl, HX.out.2.1⟩
  simp only [results, show Tryz.f65.results = #[.cell 4 3] from rfl]
  go_simp
/-- what a part gives: a value, where it stands, how it failed -/
def PartR_bytes (g B : Nat) (b : List Int) (PR : Value → World → Nat → Int → Prop) (X : World) (e : Ending) (w' : World) : Prop :=
  ∃ (A : Option Addr) (m c : Nat) (k2 : Nat) (e2 : Int), e = .returned (.slice A m c) ∧ RdAt w' B g b k2 e2 ∧ Wr g X w' ∧ PR (.slice A m c) w' k2 e2
/-- what read gives -/
def ReadR_bytes (g B k : Nat) (b : List Int) (PR : Value → World → Nat → Int → Prop) (w : World) (e : Ending) (w' : World) : Prop :=
  ∃ (A : Option Addr) (m c : Nat) (k2 : Nat) (e2 : Int) (X1 : World), PR (.slice A m c) X1 k2 e2 ∧ Wr g w w' ∧ X1.heap.size = w'.heap.size ∧ (∀ j, w.heap.size + 2 < j → j ≠ g → w'.heap[j]? = X1.heap[j]?) ∧
    (e2 = 0 → e = .returned (.slice A m c) ∧ RdAt w' B g b k2 0) ∧ (e2 ≠ 0 → e = .returned (.slice none 0 0) ∧ RdAt w' B g b k e2)
/-- what a part gives: a value, where it stands, how it failed -/
def PartR_ints (g B : Nat) (b : List Int) (PR : Value → World → Nat → Int → Prop) (X : World) (e : Ending) (w' : World) : Prop :=
  ∃ (A : Option Addr) (m c : Nat) (k2 : Nat) (e2 : Int), e = .returned (.slice A m c) ∧ RdAt w' B g b k2 e2 ∧ Wr g X w' ∧ PR (.slice A m c) w' k2 e2
/-- what read gives -/
def ReadR_ints (g B k : Nat) (b : List Int) (PR : Value → World → Nat → Int → Prop) (w : World) (e : Ending) (w' : World) : Prop :=
  ∃ (A : Option Addr) (m c : Nat) (k2 : Nat) (e2 : Int) (X1 : World), PR (.slice A m c) X1 k2 e2 ∧ Wr g w w' ∧ X1.heap.size = w'.heap.size ∧ (∀ j, w.heap.size + 2 < j → j ≠ g → w'.heap[j]? = X1.heap[j]?) ∧
    (e2 = 0 → e = .returned (.slice A m c) ∧ RdAt w' B g b k2 0) ∧ (e2 ≠ 0 → e = .returned (.slice none 0 0) ∧ RdAt w' B g b k e2)
theorem d_ok_ints {X : World} {B g k2 rb ab gb : Nat} {b : List Int} (u : FrameMode) (h : RdAt X B g b k2 0) (hr : X.cell? ⟨rb, 0, none⟩ = some (.pointer (some ⟨g, 0, none⟩))) :
    CallsD Tryz.prog 92 #[.pointer (some ⟨rb, 0, none⟩), .pointer (some ⟨ab, 0, none⟩), .pointer (some ⟨gb, 0, none⟩)] u X fun e u' w' => u' = u ∧ (e = .returned (.tuple #[]) ∧ w' = X) := by
  obtain ⟨A, c, c0, c1, c2, f1, f2⟩ := h.cells
  clear h
  go_enter_d Tryz.func92, Tryz.ntmps92
  go_wp2
  go_end0
  exact ⟨rfl, rfl⟩
theorem d_bad_ints {X : World} {B g k2 k rb ab gb : Nat} {b : List Int} {e2 : Int} {v : Value} (u : FrameMode) (h : RdAt X B g b k2 e2) (he : e2 ≠ 0) (hr : X.cell? ⟨rb, 0, none⟩ = some (.pointer (some ⟨g, 0, none⟩))) (ha : X.cell? ⟨ab, 0, none⟩ = some (.int .i64 (k : Nat))) (hg : X.cell? ⟨gb, 0, none⟩ = some v) (hgf : X.frozen? ⟨gb, 0, none⟩ = false) (hne : gb ≠ g) :
    CallsD Tryz.prog 92 #[.pointer (some ⟨rb, 0, none⟩), .pointer (some ⟨ab, 0, none⟩), .pointer (some ⟨gb, 0, none⟩)] u X fun e u' w' => u' = u ∧ (e = .returned (.tuple #[]) ∧ w' = (X.setCell ⟨g, 1, none⟩ (.int .i64 (k : Nat))).setCell ⟨gb, 0, none⟩ (.slice none 0 0)) := by
  obtain ⟨A, c, c0, c1, c2, f1, f2⟩ := h.cells
  have heb : (e2 != 0) = true := by simpa using he
  have hga : (X.setCell ⟨g, 1, none⟩ (.int .i64 (k : Nat))).cell? ⟨gb, 0, none⟩ = some v := by
    rw [World.cell?_setCell_other X ⟨g, 1, none⟩ ⟨gb, 0, none⟩ _ (by first | (simp; done) | (simp; omega))]; exact hg
  clear h he
  go_enter_d Tryz.func92, Tryz.ntmps92
  go_wp2
  go_end0
  exact ⟨rfl, rfl⟩
set_option maxRecDepth 100000 in
set_option maxHeartbeats 4000000 in
theorem read_ok_ints {w : World} {B g k : Nat} {b : List Int} (pa pb : Nat) (PR : Value → World → Nat → Int → Prop) (h : RdAt w B g b k 0) (K : ∀ X, RdAt X B g b k 0 → Below w.heap.size w X → X.heap.size = w.heap.size + 3 → Calls Tryz.prog 76 #[.pointer (some ⟨pa, 0, none⟩), .pointer (some ⟨pb, 0, none⟩)] X (PartR_ints g B b PR X)) :
    Calls Tryz.prog 75 #[.pointer (some ⟨g, 0, none⟩), .func (.func 76) #[] #[.pointer (some ⟨pa, 0, none⟩), .pointer (some ⟨pb, 0, none⟩)]] w (ReadR_ints g B k b PR w) := by
  have hmf : ∀ (fn : Fn) (first cap : Array Value) (w : World), (Instr.makeFunc fn first cap).run Tryz.prog w = .ok (.func fn first cap) w := fun _ _ _ _ => rfl
  have HX := Lib.hid (((Kpc.start w).alloc #[.pointer (some ⟨g, 0, none⟩)] 29).alloc #[.slice none 0 0] 39)
  rw [alloc_size'] at HX
  obtain ⟨hg, hBg, hk, -, -⟩ := h.lt
  have KE := Lib.hid (rd_Err (h.below HX.out.2.1))
  obtain ⟨A0, cc0, c0, c1, c2, -, -⟩ := (h.below HX.out.2.1).cells
  have x0 := (HX.out.tail.head.cell 0).trans rfl
  have HS2 : Hid (((w.alloc (.cells #[.pointer (some ⟨g, 0, none⟩)] 29)).alloc (.cells #[.slice none 0 0] 39)).heap.size = w.heap.size + 2) := by
    show _ = _
    rw [alloc_size', alloc_size']
  have HR := Lib.hid h
  have KP := Lib.hid K
  clear h K
  go_enter_defers Tryz.func75, Tryz.ntmps75
  go_wp2_with fail
  refine (KE.out).mono ?_
  rintro e w' ⟨rfl, rfl⟩
  have HX3 := Lib.hid (HX.out.alloc #[.int .i64 (k : Nat)] 3)
  rw [HS2.out] at HX3
  have HS3 : Hid ((((w.alloc (.cells #[.pointer (some ⟨g, 0, none⟩)] 29)).alloc (.cells #[.slice none 0 0] 39)).alloc (.cells #[.int .i64 (k : Nat)] 3)).heap.size = w.heap.size + 3) := by
    show _ = _
    rw [alloc_size', HS2.out]
  have KP1 := Lib.hid (KP.out _ (HR.out.below HX3.out.2.1) HX3.out.2.1 HS3.out)
  go_wp2_with fail
  refine (KP1.out).mono ?_
  rintro e X1 ⟨A, m, c, k2, e2, rfl, hR, hW, hPR⟩
  have B0 := Lib.hid (hW.box HX3.out.tail.tail.head (by omega))
  have B1 := Lib.hid (hW.box HX3.out.tail.head (by omega))
  have B2 := Lib.hid (hW.box HX3.out.head (by omega))
  have y1 := (B1.out.cell 0).trans rfl
  have yf := B1.out.free 0
  have HW := Lib.hid ((Wr.of g HX3.out.2.1).trans hW)
  have HR1 := Lib.hid hR
  have HP := Lib.hid hPR
  clear hR hW hPR x0 c0 c1 c2 KP1 KP KE HX HX3 HS2 HS3
  go_wp2
  have HRs := Lib.hid (HR1.out.wr (Wr.set (w.heap.size + 1) 0 X1 (.slice A m c)) (by omega))
  have HB0 := Lib.hid (B0.out.off (p := ⟨w.heap.size + 1, 0, none⟩) (show w.heap.size + 1 ≠ w.heap.size by omega) (.slice A m c))
  have HB1 := Lib.hid (B1.out.set 0 (.slice A m c))
  have HB2 := Lib.hid (B2.out.off (p := ⟨w.heap.size + 1, 0, none⟩) (show w.heap.size + 1 ≠ w.heap.size + 2 by omega) (.slice A m c))
  have HWs : Hid (Wr g w (X1.setCell ⟨w.heap.size + 1, 0, none⟩ (.slice A m c))) := by
    have hw := HW.out
    refine ⟨hw.os, hw.tape, hw.output, by simp [World.setCell]; exact hw.size, fun j hj hjg => ?_⟩
    rw [Below.heap_setCell _ _ _ _ (by show j ≠ w.heap.size + 1; omega)]
    exact hw.block j hj hjg
  have HXs : Hid (X1.heap.size = (X1.setCell ⟨w.heap.size + 1, 0, none⟩ (.slice A m c)).heap.size) := by (show _ = _; simp [World.setCell])
  have HXj : Hid (∀ j, w.heap.size + 2 < j → j ≠ g → (X1.setCell ⟨w.heap.size + 1, 0, none⟩ (.slice A m c)).heap[j]? = X1.heap[j]?) := fun j hj _ => Below.heap_setCell _ _ _ _ (by show j ≠ w.heap.size + 1; omega)
  refine leaves_cons (f := 92) (args := #[.pointer (some ⟨w.heap.size, 0, none⟩), .pointer (some ⟨w.heap.size + 1 + 1, 0, none⟩), .pointer (some ⟨w.heap.size + 1, 0, none⟩)]) (by simp) (by simp [go_sem]) ?_
  have q0 := (HB0.out.cell 0).trans rfl
  have q1 := (HB1.out.cell 0).trans rfl
  have q2 := (HB2.out.cell 0).trans rfl
  by_cases he : e2 = 0
  · subst he
    refine (d_ok_ints .returning HRs.out q0).mono ?_
    rintro e u' w'' ⟨rfl, rfl, rfl⟩
    refine ⟨.slice A m c, ?_, A, m, c, k2, 0, X1, HP.out, HWs.out, HXs.out, HXj.out, fun _ => ⟨rfl, HRs.out⟩, fun h => absurd rfl h⟩
    simp only [results, show Tryz.f75.results = #[.cell 4 39] from rfl]
    go_simp
  · refine (d_bad_ints .returning HRs.out he q0 q2 q1 (HB1.out.free 0) (by omega)).mono ?_
    rintro e u' w'' ⟨rfl, rfl, rfl⟩
    have HRz : RdAt (((X1.setCell ⟨w.heap.size + 1, 0, none⟩ (.slice A m c)).setCell ⟨g, 1, none⟩ (.int .i64 (k : Nat))).setCell ⟨w.heap.size + 1, 0, none⟩ (.slice none 0 0)) B g b k e2 := (HRs.out.to k hk).wr (Wr.set (w.heap.size + 1) 0 _ _) (by omega)
    have HWz : Wr g w (((X1.setCell ⟨w.heap.size + 1, 0, none⟩ (.slice A m c)).setCell ⟨g, 1, none⟩ (.int .i64 (k : Nat))).setCell ⟨w.heap.size + 1, 0, none⟩ (.slice none 0 0)) := by
      have hw := HWs.out.trans (Wr.set g 1 _ (.int .i64 (k : Nat)))
      refine ⟨hw.os, hw.tape, hw.output, by have := hw.size; simp [World.setCell] at this ⊢; exact this, fun j hj hjg => ?_⟩
      rw [Below.heap_setCell _ _ _ _ (by show j ≠ w.heap.size + 1; omega)]
      exact hw.block j hj hjg
    have q3 := ((HB1.out.off (p := ⟨g, 1, none⟩) (show g ≠ w.heap.size + 1 by omega) (.int .i64 (k : Nat))).set 0 (.slice none 0 0)).cell 0
    refine ⟨.slice none 0 0, ?_, A, m, c, k2, e2, X1, HP.out, HWz, ?_, fun j hj hjg => ?_, fun h => absurd h he, fun _ => ⟨rfl, HRz⟩⟩
    · simp only [results, show Tryz.f75.results = #[.cell 4 39] from rfl]
      simp at q3
      go_simp
    · rw [HXs.out]; simp [World.setCell]
    · rw [Below.heap_setCell _ _ _ _ (by show j ≠ w.heap.size + 1; omega), Below.heap_setCell _ _ _ _ hjg]
      exact HXj.out j hj hjg
set_option maxRecDepth 100000 in
set_option maxHeartbeats 4000000 in
theorem read_no_ints {w : World} {B g k : Nat} {b : List Int} {e0 : Int} (h : RdAt w B g b k e0) (he : e0 ≠ 0) (fv : Value) :
    Calls Tryz.prog 75 #[.pointer (some ⟨g, 0, none⟩), fv] w fun e w' => e = .returned (.slice none 0 0) ∧ RdAt w' B g b k e0 ∧ Wr g w w' := by
  have HX := Lib.hid (((Kpc.start w).alloc #[.pointer (some ⟨g, 0, none⟩)] 29).alloc #[.slice none 0 0] 39)
  rw [alloc_size'] at HX
  have KE := Lib.hid (rd_Err (h.below HX.out.2.1))
  have x0 := (HX.out.tail.head.cell 0).trans rfl
  have x1 := (HX.out.head.cell 0).trans rfl
  have xf := HX.out.head.free 0
  have heb : (e0 != 0) = true := by simpa using he
  have HR := Lib.hid (h.below HX.out.2.1)
  clear h he
  go_enter_defers Tryz.func75, Tryz.ntmps75
  go_wp2_with fail
  refine (KE.out).mono ?_
  rintro e w' ⟨rfl, rfl⟩
  go_wp2
  refine ⟨.slice none 0 0, ?_, rfl, HR.out, Wr.of g HX.out.2.1⟩
  simp only [results, show Tryz.f75.results = #[.cell 4 39] from rfl]
  go_simp
set_option maxRecDepth 100000 in
set_option maxHeartbeats 4000000 in
theorem read_nil_ints (fv : Value) (w : World) :
    Calls Tryz.prog 75 #[.pointer none, fv] w fun e w' => e = .returned (.slice none 0 0) ∧ Below w.heap.size w w' := by
  have HX := Lib.hid (((Kpc.start w).alloc #[.pointer none] 29).alloc #[.slice none 0 0] 39)
  rw [alloc_size'] at HX
  have KE := Lib.hid (fun W => rd_Err_nil W)
  have x0 := (HX.out.tail.head.cell 0).trans rfl
  have x1 := (HX.out.head.cell 0).trans rfl
  have xf := HX.out.head.free 0
  go_enter_defers Tryz.func75, Tryz.ntmps75
  go_wp2_with fail
  refine (KE.out _).mono ?_
  rintro e w' ⟨rfl, rfl⟩
  go_wp2
  refine ⟨.slice none 0 0, ?_, rfl, HX.out.2.1⟩
  simp only [results, show Tryz.f75.results = #[.cell 4 39] from rfl]
  go_simp
end Go.Proofs.YtpoemflclbhekaaGreat

/-! Layer 21 (bin): U, I, N of a reader. -/
namespace Go.Proofs.YtpoemflclbhekaaGreat
open Go.RowKit
set_option linter.unusedVariables false
set_option linter.unusedSimpArgs false

theorem rN_err {b : List Int} {k : Nat} {e most : Int} (h : (rN b k e most).1.2 ≠ 0) : (rN b k e most).1.1 = k ∧ (rN b k e most).2 = 0 := by
  unfold rN at h ⊢
  by_cases h1 : (rU b k e).1.2 ≠ 0
  · rw [if_pos h1]; exact ⟨(rU_err h1).1, rfl⟩
  · rw [if_neg h1] at h ⊢
    by_cases h2 : most < 0 ∨ most < ((rU b k e).2 : Int)
    · rw [if_pos h2]; exact ⟨rfl, rfl⟩
    · rw [if_neg h2] at h; exact absurd h h1
theorem rN_e {b : List Int} {k : Nat} {e most : Int} (h : e ≠ 0) : rN b k e most = ((k, e), 0) := by
  unfold rN
  rw [rU_e h, if_pos h]
theorem rN_bd {b : List Int} {k : Nat} {e most : Int} (h : (rN b k e most).1.2 = 0) : ((rN b k e most).2 : Int) ≤ most ∧ (rU b k e).1.2 = 0 ∧ rN b k e most = rU b k e := by
  unfold rN at h ⊢
  by_cases h1 : (rU b k e).1.2 ≠ 0
  · rw [if_pos h1] at h; exact absurd h h1
  · rw [if_neg h1] at h ⊢
    by_cases h2 : most < 0 ∨ most < ((rU b k e).2 : Int)
    · rw [if_pos h2] at h; simp at h
    · rw [if_neg h2]; exact ⟨by omega, by omega, rfl⟩
set_option maxRecDepth 100000 in
set_option maxHeartbeats 2000000 in
theorem rd_U {w : World} {B g k : Nat} {b : List Int} {e0 : Int} (h : RdAt w B g b k e0) :
    Calls Tryz.prog 67 #[.pointer (some ⟨g, 0, none⟩)] w fun e w' => e = .returned (.int .u64 ((rU b k e0).2 : Nat)) ∧ RdAt w' B g b (rU b k e0).1.1 (rU b k e0).1.2 ∧ Wr g w w' := by
  have hmf : ∀ (fn : Fn) (first cap : Array Value) (w : World), (Instr.makeFunc fn first cap).run Tryz.prog w = .ok (.func fn first cap) w := fun _ _ _ _ => rfl
  have KR : Hid (Calls Tryz.prog 85 #[.pointer (some ⟨g, 0, none⟩), .func (.func 86) #[.pointer (some ⟨g, 0, none⟩)] #[]] w fun e w' => e = .returned (.int .u64 ((rU b k e0).2 : Nat)) ∧ RdAt w' B g b (rU b k e0).1.1 (rU b k e0).1.2 ∧ Wr g w w') := by
    by_cases he : e0 = 0
    · subst he
      refine (read_ok_u64 (fun v X k2 e2 => e2 = (rU b k 0).1.2 ∧ (e2 = 0 → k2 = (rU b k 0).1.1 ∧ v = .int .u64 ((rU b k 0).2 : Nat))) h fun X hX hb _ => (rd_number hX).mono fun e w' hg => ?_).mono fun e w' hg => ?_
      · obtain ⟨v, k2, e2, g1, g2, g3, g4, g5, g6⟩ := hg
        exact ⟨v, k2, e2, g1, g3, g4, g5, fun h => ⟨(g6 h).1, by rw [(g6 h).2]⟩⟩
      · obtain ⟨x, k2, e2, X1, ⟨g1, g2⟩, g3, -, -, g4, g5⟩ := hg
        by_cases h0 : e2 = 0
        · obtain ⟨rfl, g6⟩ := g4 h0
          obtain ⟨g7, g8⟩ := g2 h0
          rw [g8, ← g1, ← g7, h0]
          exact ⟨rfl, g6, g3⟩
        · obtain ⟨rfl, g6⟩ := g5 h0
          obtain ⟨g7, g8⟩ := rU_err (b := b) (k := k) (e := 0) (by rw [← g1]; exact h0)
          rw [g8, g7, ← g1]
          exact ⟨rfl, g6, g3⟩
    · rw [rU_e he]
      exact read_no_u64 h he _
  clear h
  generalize (rU b k e0).2 = rv at *
  go_enter Tryz.func67, Tryz.ntmps67
  go_wp2_with fail
  refine (KR.out).mono ?_
  rintro e w1 ⟨rfl, g1, g2⟩
  have H1 := Lib.hid g1
  have H2 := Lib.hid g2
  clear g1 g2
  go_wp2
  go_ret
  exact ⟨rfl, H1.out, H2.out⟩
set_option maxRecDepth 100000 in
theorem rd_U_nil (w : World) : Calls Tryz.prog 67 #[.pointer none] w fun e w' => e = .returned (.int .u64 0) ∧ Below w.heap.size w w' := by
  have hmf : ∀ (fn : Fn) (first cap : Array Value) (w : World), (Instr.makeFunc fn first cap).run Tryz.prog w = .ok (.func fn first cap) w := fun _ _ _ _ => rfl
  have KR := Lib.hid (fun fv => read_nil_u64 fv w)
  go_enter Tryz.func67, Tryz.ntmps67
  go_wp2_with fail
  refine (KR.out _).mono ?_
  rintro e w1 ⟨rfl, g1⟩
  have H1 := Lib.hid g1
  clear g1
  go_wp2
  go_ret
  exact ⟨rfl, H1.out⟩
set_option maxRecDepth 100000 in
set_option maxHeartbeats 2000000 in
theorem rd_I {w : World} {B g k : Nat} {b : List Int} {e0 : Int} (h : RdAt w B g b k e0) :
    Calls Tryz.prog 45 #[.pointer (some ⟨g, 0, none⟩)] w fun e w' => e = .returned (.int .i64 (unfoldI (rU b k e0).2)) ∧ RdAt w' B g b (rU b k e0).1.1 (rU b k e0).1.2 ∧ Wr g w w' := by
  have KU := Lib.hid (rd_U h)
  have KF := Lib.hid (fun W => bin_unfolded (rU b k e0).2 (rU_bd h.lt.2.2.2.2 k e0) W)
  clear h
  generalize (rU b k e0).2 = rv at *
  generalize unfoldI rv = ri at *
  go_enter Tryz.func45, Tryz.ntmps45
  go_wp2_with fail
  refine (KU.out).mono ?_
  rintro e w1 ⟨rfl, g1, g2⟩
  have H1 := Lib.hid g1
  have H2 := Lib.hid g2
  clear g1 g2
  go_wp2_with fail
  refine (KF.out _).mono ?_
  rintro e w2 ⟨rfl, rfl⟩
  go_wp2
  go_ret
  exact ⟨rfl, H1.out, H2.out⟩
set_option maxRecDepth 100000 in
set_option maxHeartbeats 4000000 in
theorem cl_N {X : World} {B g k pa pb : Nat} {b : List Int} (most : Int) (hm : I64 most) (h : RdAt X B g b k 0) (ha : Box X pa #[.pointer (some ⟨g, 0, none⟩)] 29) (hb : Box X pb #[.int .i64 most] 3) (hag : pa ≠ g) (hbg : pb ≠ g) :
    Calls Tryz.prog 66 #[.pointer (some ⟨pa, 0, none⟩), .pointer (some ⟨pb, 0, none⟩)] X (PartR_int g B b (fun v w' k2 e2 => e2 = (rN b k 0 most).1.2 ∧ (e2 = 0 → k2 = (rN b k 0 most).1.1 ∧ v = .int .i64 ((rN b k 0 most).2 : Nat))) X) := by
  have KU := Lib.hid (rd_U h)
  have hbd := rU_bd h.lt.2.2.2.2 k 0
  have HNE : Hid ((rU b k 0).1.2 ≠ 0 → (rU b k 0).2 = 0) := fun h => (rU_err h).2
  have HA := Lib.hid ha
  have HB := Lib.hid hb
  have hrn : rN b k 0 most = if (rU b k 0).1.2 ≠ 0 then ((rU b k 0).1, 0) else if most < 0 ∨ most < ((rU b k 0).2 : Int) then ((k, 211), 0) else rU b k 0 := rfl
  have x0 := (ha.cell 0).trans rfl
  obtain ⟨hm1, hm2⟩ := hm
  unfold PartR_int
  clear h ha hb
  generalize hu : rU b k 0 = u at *
  obtain ⟨⟨k1, e1⟩, n⟩ := u
  simp only at KU HNE hrn hbd
  have KF := Lib.hid (fun W (h1 : RdAt W B g b k1 e1) => rd_Fail h1 211)
  by_cases hbad : most < 0 ∨ most < (n : Int)
  · have HE2 : Hid (failE e1 211 = (rN b k 0 most).1.2) := by
      show _ = _
      rw [hrn, if_pos hbad]
      unfold failE
      by_cases h1 : e1 ≠ 0
      · rw [if_pos h1, if_pos h1]
      · rw [if_neg h1, if_neg h1]; simp
    have HE3 : Hid (failE e1 211 ≠ 0) := by
      show failE e1 211 ≠ 0
      unfold failE
      by_cases h1 : e1 ≠ 0
      · rw [if_pos h1]; exact h1
      · rw [if_neg h1]; simp
    clear hrn
    generalize rN b k 0 most = r at *
    generalize failE e1 211 = e9 at *
    by_cases h0 : most < 0
    · have hd : decide (most < 0) = true := decide_eq_true h0
      clear hbad
      go_enter Tryz.func66, Tryz.ntmps66
      go_wp2_with fail
      refine (KU.out).mono ?_
      rintro e w1 ⟨rfl, g1, g2⟩
      have H1 := Lib.hid g1
      have H2 := Lib.hid g2
      have a1 := ((g2.box HA.out hag).cell 0).trans rfl
      have b1 := ((g2.box HB.out hbg).cell 0).trans rfl
      clear g1 g2
      go_wp2_with fail
      refine (KF.out _ H1.out).mono ?_
      rintro e w2 ⟨rfl, g1, g2⟩
      have H3 := Lib.hid g1
      have H4 := Lib.hid (H2.out.trans g2)
      clear g1 g2
      go_wp2
      go_ret
      exact ⟨_, k1, e9, rfl, H3.out, H4.out, HE2.out, fun h => absurd h HE3.out⟩
    · have hd : decide (most < 0) = false := decide_eq_false h0
      have hmn : most < (n : Int) := by omega
      clear hbad
      go_enter Tryz.func66, Tryz.ntmps66
      go_wp2_with fail
      refine (KU.out).mono ?_
      rintro e w1 ⟨rfl, g1, g2⟩
      have H1 := Lib.hid g1
      have H2 := Lib.hid g2
      have a1 := ((g2.box HA.out hag).cell 0).trans rfl
      have b1 := ((g2.box HB.out hbg).cell 0).trans rfl
      clear g1 g2
      go_wp2_with fail
      refine (KF.out _ H1.out).mono ?_
      rintro e w2 ⟨rfl, g1, g2⟩
      have H3 := Lib.hid g1
      have H4 := Lib.hid (H2.out.trans g2)
      clear g1 g2
      go_wp2
      go_ret
      exact ⟨_, k1, e9, rfl, H3.out, H4.out, HE2.out, fun h => absurd h HE3.out⟩
  · have h0 : ¬ most < 0 := by omega
    have hd : decide (most < 0) = false := decide_eq_false h0
    have hmn : ¬ most < (n : Int) := by omega
    have hnn : (n : Int) ≤ 9223372036854775807 := by omega
    have HE2 : Hid (e1 = (rN b k 0 most).1.2 ∧ (e1 = 0 → k1 = (rN b k 0 most).1.1 ∧ n = (rN b k 0 most).2)) := by
      rw [hrn, if_neg hbad]
      by_cases h1 : e1 ≠ 0
      · rw [if_pos h1]; exact ⟨rfl, fun h => absurd h h1⟩
      · rw [if_neg h1]; exact ⟨rfl, fun _ => ⟨rfl, rfl⟩⟩
    clear hrn hbad
    generalize rN b k 0 most = r at *
    go_enter Tryz.func66, Tryz.ntmps66
    go_wp2_with fail
    refine (KU.out).mono ?_
    rintro e w1 ⟨rfl, g1, g2⟩
    have H1 := Lib.hid g1
    have H2 := Lib.hid g2
    have a1 := ((g2.box HA.out hag).cell 0).trans rfl
    have b1 := ((g2.box HB.out hbg).cell 0).trans rfl
    clear g1 g2
    go_wp2
    go_ret
    exact ⟨(n : Int), k1, e1, rfl, H1.out, H2.out, HE2.out.1, fun h => ⟨(HE2.out.2 h).1, by rw [(HE2.out.2 h).2]⟩⟩
set_option maxRecDepth 100000 in
set_option maxHeartbeats 4000000 in
theorem rd_N {w : World} {B g k : Nat} {b : List Int} {e0 : Int} (most : Int) (hm : I64 most) (h : RdAt w B g b k e0) :
    Calls Tryz.prog 33 #[.pointer (some ⟨g, 0, none⟩), .int .i64 most] w fun e w' => e = .returned (.int .i64 ((rN b k e0 most).2 : Nat)) ∧ RdAt w' B g b (rN b k e0 most).1.1 (rN b k e0 most).1.2 ∧ Wr g w w' := by
  have hmf : ∀ (fn : Fn) (first cap : Array Value) (w : World), (Instr.makeFunc fn first cap).run Tryz.prog w = .ok (.func fn first cap) w := fun _ _ _ _ => rfl
  have HX := Lib.hid (((Kpc.start w).alloc #[.pointer (some ⟨g, 0, none⟩)] 29).alloc #[.int .i64 most] 3)
  rw [alloc_size'] at HX
  have hg := h.lt.1
  have hX := h.below HX.out.2.1
  have x0 := (HX.out.tail.head.cell 0).trans rfl
  have KR : Hid (Calls Tryz.prog 65 #[.pointer (some ⟨g, 0, none⟩), .func (.func 66) #[] #[.pointer (some ⟨w.heap.size, 0, none⟩), .pointer (some ⟨w.heap.size + 1, 0, none⟩)]] ((w.alloc (.cells #[.pointer (some ⟨g, 0, none⟩)] 29)).alloc (.cells #[.int .i64 most] 3)) fun e w' => e = .returned (.int .i64 ((rN b k e0 most).2 : Nat)) ∧ RdAt w' B g b (rN b k e0 most).1.1 (rN b k e0 most).1.2 ∧ Wr g w w') := by
    by_cases he : e0 = 0
    · subst he
      refine (read_ok_int w.heap.size (w.heap.size + 1) (fun v w' k2 e2 => e2 = (rN b k 0 most).1.2 ∧ (e2 = 0 → k2 = (rN b k 0 most).1.1 ∧ v = .int .i64 ((rN b k 0 most).2 : Nat))) hX fun X hX1 hb1 _ => cl_N most hm hX1 (HX.out.tail.head.below hb1 HX.out.tail.head.lt) (HX.out.head.below hb1 HX.out.head.lt) (by omega) (by omega)).mono fun e w' hg => ?_
      obtain ⟨x, k2, e2, X1, ⟨g1, g2⟩, g3, -, -, g4, g5⟩ := hg
      by_cases h0 : e2 = 0
      · obtain ⟨rfl, g6⟩ := g4 h0
        obtain ⟨g7, g8⟩ := g2 h0
        rw [g8, ← g1, ← g7, h0]
        exact ⟨rfl, g6, (Wr.of g HX.out.2.1).trans g3⟩
      · obtain ⟨rfl, g6⟩ := g5 h0
        obtain ⟨g7, g8⟩ := rN_err (b := b) (k := k) (e := 0) (most := most) (by rw [← g1]; exact h0)
        rw [g8, g7, ← g1]
        exact ⟨rfl, g6, (Wr.of g HX.out.2.1).trans g3⟩
    · rw [rN_e he]
      exact (read_no_int hX he _).mono fun e w' hg => ⟨hg.1, hg.2.1, (Wr.of g HX.out.2.1).trans hg.2.2⟩
  clear h hX
  generalize (rN b k e0 most).2 = rv at *
  go_enter Tryz.func33, Tryz.ntmps33
  go_wp2_with fail
  refine (KR.out).mono ?_
  rintro e w1 ⟨rfl, g1, g2⟩
  have H1 := Lib.hid g1
  have H2 := Lib.hid g2
  clear g1 g2
  go_wp2
  go_ret
  exact ⟨rfl, H1.out, H2.out⟩
end Go.Proofs.YtpoemflclbhekaaGreat

/-! Layer 21 (bin): Text of a reader. -/
namespace Go.Proofs.YtpoemflclbhekaaGreat
open Go.RowKit
set_option linter.unusedVariables false
set_option linter.unusedSimpArgs false

theorem rT_err {b : List Int} {k : Nat} {e most : Int} (hb : byt b) (hk : k ≤ b.length) (h : (rT b k e most).1.2 ≠ 0) : (rT b k e most).1.1 = k ∧ (rT b k e most).2 = [] := by
  unfold rT at h ⊢
  by_cases h1 : (rN b k e most).1.2 ≠ 0
  · rw [if_pos h1]; exact ⟨(rN_err h1).1, rfl⟩
  · rw [if_neg h1] at h ⊢
    by_cases h2 : b.length - (rN b k e most).1.1 < (rN b k e most).2
    · rw [if_pos h2]; exact ⟨rfl, rfl⟩
    · rw [if_neg h2] at h; exact absurd rfl h
theorem rT_e {b : List Int} {k : Nat} {e most : Int} (h : e ≠ 0) : rT b k e most = ((k, e), []) := by
  unfold rT
  rw [rN_e h, if_pos h]
theorem OwnsY.keep {w w' : World} {B B' : Nat} {v : Value} {l : List Int} (h : OwnsY w B v l) (hB : B' ≤ B) (hk : ∀ j, B ≤ j → j < w.heap.size → w'.heap[j]? = w.heap[j]?) : OwnsY w' B' v l := by
  refine ⟨h.1, ?_⟩
  rcases h.2 with h0 | ⟨g, cap, cur, h1, hbg, hh, hr⟩
  · exact .inl h0
  · refine .inr ⟨g, cap, cur, h1, Nat.le_trans hB hbg, (hk g hbg ?_).trans hh, hr⟩
    rcases Nat.lt_or_ge g w.heap.size with h | h
    · exact h
    · rw [Array.getElem?_eq_none h] at hh; cases hh
theorem RdAt.low {w w' : World} {B g k S : Nat} {b : List Int} {e : Int} (h : RdAt w B g b k e) (hb : Below S w w') (hg : g < S) : RdAt w' B g b k e := by
  obtain ⟨A, c, h1, h2, h3, h4, h5, h6, h7, h8⟩ := h
  exact ⟨A, c, h1.below hb hg, h2, h3, h4, h5, h6, h7.below (hb.mono (Nat.le_of_lt hg)), h8⟩
theorem Wr.low2 {g : Nat} {a b c : World} (h : Wr g a b) (k : Below a.heap.size b c) : Wr g a c :=
  ⟨k.os.trans h.os, k.tape.trans h.tape, k.output.trans h.output, Nat.le_trans h.size k.size, fun i hi hg => (k.block i hi).trans (h.block i hi hg)⟩
def PTx : List (List Nat) := [[], [], [], [1, 2], [0, 3, 3], [4, 4], [5, 5, 0, 1, 2, 3, 4, 5]]
/-- what next gives at the end of a text -/
def NxT (B g : Nat) (b : List Int) (k1 : Nat) (e1 : Int) (n : Nat) (X : World) (v : Value) : Prop :=
  ∃ A c m y k2 e2, v = .slice A m c ∧ y.length = m ∧ RdAt X B g b k2 e2 ∧ LiesY X X.heap.size A y ∧ (A = none → c = 0) ∧ m ≤ 1000000 ∧ (n ≤ b.length - k1 → e2 = e1 ∧ k2 = k1 + n ∧ y = (b.drop k1).take n) ∧ (b.length - k1 < n → e2 = failE e1 210)
def ETx (B g : Nat) (b : List Int) (most : Int) (k1 : Nat) (e1 : Int) (n S : Nat) : EJ :=
  [(none, fun X v => v = .pointer (some ⟨g, 0, none⟩)), (none, fun X v => v = .pointer (some ⟨g, 0, none⟩)), (none, fun X v => v = .int .i64 most),
   (some 4, fun X v => v = .int .i64 (n : Nat) ∧ RdAt X B g b k1 e1), (some 5, fun X v => NxT B g b k1 e1 n X v),
   (none, fun X v => ∃ y k2 e2, OwnsY X S v y ∧ RdAt X B g b k2 e2 ∧ (n ≤ b.length - k1 → e2 = e1 ∧ k2 = k1 + n ∧ y = (b.drop k1).take n) ∧ (b.length - k1 < n → e2 = failE e1 210)),
   (none, fun X v => ∃ y k2 e2, OwnsY X S v y ∧ RdAt X B g b k2 e2 ∧ (n ≤ b.length - k1 → e2 = e1 ∧ k2 = k1 + n ∧ y = (b.drop k1).take n) ∧ (b.length - k1 < n → e2 = failE e1 210))]
end Go.Proofs.YtpoemflclbhekaaGreat

/-! Layer 21 (bin): Ints of a reader. -/
namespace Go.Proofs.YtpoemflclbhekaaGreat
open Go.RowKit
set_option linter.unusedVariables false
set_option linter.unusedSimpArgs false

theorem rL_err {b : List Int} {k : Nat} {e most : Int} (h : (rL b k e most).1.2 ≠ 0) : (rL b k e most).1.1 = k ∧ (rL b k e most).2 = [] := by
  unfold rL at h ⊢
  split at h
  · rename_i h1; rw [if_pos h1]; exact ⟨rfl, rfl⟩
  · rename_i h1; exact absurd h h1
theorem rL_e {b : List Int} {k : Nat} {e most : Int} (h : e ≠ 0) : rL b k e most = ((k, e), []) := by
  unfold rL
  rw [rN_e h]
  show (if e ≠ 0 then ((k, e), []) else ((k, e), [])) = _
  split <;> rfl
/-- how long a slice is -/
def slN : Value → Nat
  | .slice _ n _ => n
  | _ => 0
theorem ownI_keep {w w' : World} {B B' : Nat} {v : Value} {l : List Int} (h : w.ownsRow B 3 1 v l.length (litI l)) (hB : B' ≤ B) (hk : ∀ j, B ≤ j → j < w.heap.size → w'.heap[j]? = w.heap[j]?) : w'.ownsRow B' 3 1 v l.length (litI l) := by
  refine ⟨h.1, ?_⟩
  rcases h.2 with h0 | ⟨g, cap, cur, h1, hbg, hh, hr⟩
  · exact .inl h0
  · refine .inr ⟨g, cap, cur, h1, Nat.le_trans hB hbg, (hk g hbg ?_).trans hh, hr⟩
    rcases Nat.lt_or_ge g w.heap.size with h | h
    · exact h
    · rw [Array.getElem?_eq_none h] at hh; cases hh
theorem rdL_end {b : List Int} {s : Nat × Int} {L : List Int} {j : Nat} (h : j = 0 ∨ s.2 ≠ 0) : rdL b j s L = (s, L) := by
  cases j with
  | zero => rfl
  | succ j =>
    have : s.2 ≠ 0 := by rcases h with h | h
                         · omega
                         · exact h
    simp only [rdL]
    rw [if_pos this]
theorem rdL_step {b : List Int} {k : Nat} {L : List Int} {j : Nat} : rdL b (j + 1) (k, 0) L = rdL b j (rU b k 0).1 (L ++ [unfoldI (rU b k 0).2]) := by
  simp only [rdL]
  rw [if_neg (by simp)]
set_option maxRecDepth 100000 in
set_option maxHeartbeats 8000000 in
theorem cl_Ints {X0 : World} {B g k pa pb : Nat} {b : List Int} (most : Int) (hm : I64 most) (h : RdAt X0 B g b k 0) (ha : Box X0 pa #[.pointer (some ⟨g, 0, none⟩)] 29) (hb : Box X0 pb #[.int .i64 most] 3) (hag : pa ≠ g) (hbg : pb ≠ g) :
    Calls Tryz.prog 76 #[.pointer (some ⟨pa, 0, none⟩), .pointer (some ⟨pb, 0, none⟩)] X0 (PartR_ints g B b (fun v w' k2 e2 => e2 = (rL b k 0 most).1.2 ∧ (e2 = 0 → k2 = (rL b k 0 most).1.1 ∧ w'.ownsRow X0.heap.size 3 1 v (rL b k 0 most).2.length (litI (rL b k 0 most).2))) X0) := by
  have KN := Lib.hid (rd_N most hm h)
  have KI := Lib.hid (fun W k1 (h1 : RdAt W B g b k1 0) => rd_I h1)
  obtain ⟨hgl, hBg, hk, hbl, hby⟩ := h.lt
  have HUB := Lib.hid (fun k1 => rU_bd hby k1 0)
  have HUK : Hid (∀ k1, ((rU b k1 0).1.2 = 0 → k1 < (rU b k1 0).1.1) ∧ ((rU b k1 0).1.2 ≠ 0 → (rU b k1 0).1.1 = k1)) := fun k1 => ⟨fun h => (rU_ok hby h).1, fun h => (rU_err h).1⟩
  have hn0 : ((rN b k 0 most).2 : Int) ≤ 9223372036854775807 := by
    by_cases c1 : (rN b k 0 most).1.2 = 0
    · have := (rN_bd c1).1
      have := hm.2
      omega
    · rw [(rN_err c1).2]; omega
  have HFIN : Hid (∀ (A : Option Addr) (c : Nat) (L : List Int) (W : World) (s : Nat × Int), rdL b (rN b k 0 most).2 (rN b k 0 most).1 [] = (s, L) → W.ownsRow X0.heap.size 3 1 (.slice A L.length c) L.length (litI L) → RdAt W B g b s.1 s.2 → Wr g X0 W → PartR_ints g B b (fun v w' k2 e2 => e2 = (rL b k 0 most).1.2 ∧ (e2 = 0 → k2 = (rL b k 0 most).1.1 ∧ w'.ownsRow X0.heap.size 3 1 v (rL b k 0 most).2.length (litI (rL b k 0 most).2))) X0 (.returned (.slice A L.length c)) W) := by
    intro A c L W s h1 h2 h3 h4
    refine ⟨A, L.length, c, s.1, s.2, rfl, h3, h4, ?_⟩
    have hrl : rL b k 0 most = if s.2 ≠ 0 then ((k, s.2), []) else (s, L) := by
      unfold rL
      rw [h1]
    rw [hrl]
    by_cases c1 : s.2 ≠ 0
    · rw [if_pos c1]; exact ⟨rfl, fun h => absurd h c1⟩
    · rw [if_neg c1]; exact ⟨rfl, fun _ => ⟨rfl, h2⟩⟩
  have HA := Lib.hid ha
  have HB := Lib.hid hb
  have a0 := (ha.cell 0).trans rfl
  have b0 := (hb.cell 0).trans rfl
  generalize PartR_ints g B b (fun v w' k2 e2 => e2 = (rL b k 0 most).1.2 ∧ (e2 = 0 → k2 = (rL b k 0 most).1.1 ∧ w'.ownsRow X0.heap.size 3 1 v (rL b k 0 most).2.length (litI (rL b k 0 most).2))) X0 = R at *
  clear h ha hb
  generalize (rN b k 0 most).1 = s0 at *
  generalize (rN b k 0 most).2 = n at *
  go_enter Tryz.func76, Tryz.ntmps76
  go_wp2_with fail
  refine (KN.out).mono ?_
  rintro e w1 ⟨rfl, g1, g2⟩
  have HR1 := Lib.hid g1
  have HW1 := Lib.hid g2
  clear g1 g2 a0 b0 KN
  go_wp2
  go_loopw [3] (fun v wr => ∃ (L : List Int) (A : Option Addr) (c k1 : Nat) (e1 : Int), v = .slice A L.length c ∧ L.length ≤ n ∧ L.length ≤ k1 + 1 ∧ (e1 = 0 → L.length ≤ k1) ∧ Hid (wr.ownsRow X0.heap.size 3 1 (.slice A L.length c) L.length (litI L)) ∧ Hid (RdAt wr B g b k1 e1) ∧ Hid (rdL b n s0 [] = rdL b (n - L.length) (k1, e1) L) ∧ Hid (Wr g X0 wr)) (fun v _ => n - slN v)
  case atStart => exact ⟨[], none, 0, s0.1, s0.2, rfl, Nat.zero_le _, Nat.zero_le _, fun _ => Nat.zero_le _, World.ownsRow_nil _ _ _ _, HR1, rfl, HW1⟩
  case round =>
    obtain ⟨L, A, c, k1, e1, rfl, hLn, hLk, hLe, HO, HR, HE, HW⟩ := hrel
    have a1 := ((HW.out.box HA.out hag).cell 0).trans rfl
    obtain ⟨A0, cc, c0, c1, c2, -, -⟩ := HR.out.cells
    by_cases hgo : L.length < n ∧ e1 = 0
    · obtain ⟨hlt, he⟩ := hgo
      subst he
      have hlg : (L.length : Int) < (n : Int) := by omega
      have hl1 := hLe rfl
      have hkb := HR.out.lt.2.2.1
      have KQ := Lib.hid (KI.out wr k1 HR.out)
      have HE2 : Hid (rdL b n s0 [] = rdL b (n - (L ++ [unfoldI (rU b k1 0).2]).length) (rU b k1 0).1 (L ++ [unfoldI (rU b k1 0).2])) := by
        show _ = _
        rw [HE.out, List.length_append, List.length_singleton, show n - L.length = n - (L.length + 1) + 1 from by omega, rdL_step]
      obtain ⟨hu1, hu2⟩ := HUK.out k1
      generalize (rU b k1 0).1 = s1 at *
      generalize unfoldI (rU b k1 0).2 = d at *
      have hln : L.length + 1 ≤ 1000000000 := by omega
      have hsz := HW.out.size
      clear HE
      generalize hN : L.length = N at *
      have HN := Lib.hid hN
      clear hN
      go_wp2_with fail
      refine (KQ.out).mono ?_
      rintro e w2 ⟨rfl, g1, g2⟩
      have HO2 : Hid (w2.ownsRow X0.heap.size 3 1 (.slice A N c) L.length (litI L)) := by
        have h1 := HO.out
        rw [← HN.out] at h1
        have h2 := ownI_keep h1 (Nat.le_refl _) (fun j hj1 hj2 => g2.block j hj2 (by omega))
        rw [HN.out] at h2 ⊢
        exact h2
      have HR2 := Lib.hid g1
      have HW2 := Lib.hid (HW.out.trans g2)
      have hs2 := g2.size
      clear g1 g2
      go_wp2_with (at_builtin; refine app_int (B := X0.heap.size) rfl (.tmp 19) (.tmp 22) rfl _ L d rfl HO2.out rfl (by omega) (by rw [HN.out]; exact hln) ?_; intro v3 w3 g1 g2 _; have HO3 := Lib.hid g1; have HB3 := Lib.hid g2; clear g1 g2)
      obtain ⟨A3, c3, e3, -, -, -⟩ := lies_ownI HO3.out
      have HO4 : Hid (w3.ownsRow X0.heap.size 3 1 (.slice A3 (L ++ [d]).length c3) (L ++ [d]).length (litI (L ++ [d]))) := by
        have := HO3.out
        rw [e3] at this
        exact this
      have hl3 : (L ++ [d]).length = N + 1 := by rw [List.length_append, HN.out]; rfl
      exact ⟨⟨L ++ [d], A3, c3, s1.1, s1.2, e3, by omega, (by by_cases hz : s1.2 = 0; (have := hu1 hz; omega); (have := hu2 hz; omega)), (fun hz => by have := hu1 hz; omega), HO4, HR2.out.low HB3.out hgl, HE2, HW2.out.low2 HB3.out⟩, by rw [e3]; simp only [slN]; omega⟩
    · have hend : n - L.length = 0 ∨ e1 ≠ 0 := by
        rcases Nat.lt_or_ge L.length n with h1 | h1
        · exact .inr fun h2 => hgo ⟨h1, h2⟩
        · exact .inl (by omega)
      have HQ : Hid (R (.returned (.slice A L.length c)) wr) := HFIN.out A c L wr (k1, e1) (by rw [HE.out, rdL_end (s := (k1, e1)) hend]) HO.out HR.out HW.out
      clear HFIN HE hend
      by_cases hlt : L.length < n
      · have hlg : (L.length : Int) < (n : Int) := by omega
        have he : e1 ≠ 0 := fun h2 => hgo ⟨hlt, h2⟩
        have heb : (e1 == 0) = false := by simpa using he
        clear hgo he hLe
        generalize L.length = N at *
        go_wp2
        first | exact HQ.out | (go_ret; exact HQ.out)
      · have hlg : ¬ (L.length : Int) < (n : Int) := by omega
        clear hgo hLe
        generalize L.length = N at *
        go_wp2
        first | exact HQ.out | (go_ret; exact HQ.out)
set_option maxRecDepth 100000 in
set_option maxHeartbeats 4000000 in
theorem rd_Ints {w : World} {B g k : Nat} {b : List Int} {e0 : Int} (most : Int) (hm : I64 most) (h : RdAt w B g b k e0) :
    Calls Tryz.prog 52 #[.pointer (some ⟨g, 0, none⟩), .int .i64 most] w fun e w' => ∃ A c, e = .returned (.slice A (rL b k e0 most).2.length c) ∧ w'.ownsRow w.heap.size 3 1 (.slice A (rL b k e0 most).2.length c) (rL b k e0 most).2.length (litI (rL b k e0 most).2) ∧ RdAt w' B g b (rL b k e0 most).1.1 (rL b k e0 most).1.2 ∧ Wr g w w' := by
  have hmf : ∀ (fn : Fn) (first cap : Array Value) (w : World), (Instr.makeFunc fn first cap).run Tryz.prog w = .ok (.func fn first cap) w := fun _ _ _ _ => rfl
  have HX := Lib.hid (((Kpc.start w).alloc #[.pointer (some ⟨g, 0, none⟩)] 29).alloc #[.int .i64 most] 3)
  rw [alloc_size'] at HX
  obtain ⟨hg, hBg, hk, hbl, hby⟩ := h.lt
  have hX := h.below HX.out.2.1
  have x0 := (HX.out.tail.head.cell 0).trans rfl
  have hs2 : ((w.alloc (.cells #[.pointer (some ⟨g, 0, none⟩)] 29)).alloc (.cells #[.int .i64 most] 3)).heap.size = w.heap.size + 2 := by rw [alloc_size', alloc_size']
  have KR : Hid (Calls Tryz.prog 75 #[.pointer (some ⟨g, 0, none⟩), .func (.func 76) #[] #[.pointer (some ⟨w.heap.size, 0, none⟩), .pointer (some ⟨w.heap.size + 1, 0, none⟩)]] ((w.alloc (.cells #[.pointer (some ⟨g, 0, none⟩)] 29)).alloc (.cells #[.int .i64 most] 3)) fun e w' => ∃ A c, e = .returned (.slice A (rL b k e0 most).2.length c) ∧ w'.ownsRow w.heap.size 3 1 (.slice A (rL b k e0 most).2.length c) (rL b k e0 most).2.length (litI (rL b k e0 most).2) ∧ RdAt w' B g b (rL b k e0 most).1.1 (rL b k e0 most).1.2 ∧ Wr g w w') := by
    by_cases he : e0 = 0
    · subst he
      refine (read_ok_ints w.heap.size (w.heap.size + 1) (fun v w' k2 e2 => e2 = (rL b k 0 most).1.2 ∧ (e2 = 0 → k2 = (rL b k 0 most).1.1 ∧ w'.ownsRow (w.heap.size + 5) 3 1 v (rL b k 0 most).2.length (litI (rL b k 0 most).2))) hX fun X hX1 hb1 hs => ?_).mono fun e w' hg => ?_
      · have := cl_Ints most hm hX1 (HX.out.tail.head.below hb1 HX.out.tail.head.lt) (HX.out.head.below hb1 HX.out.head.lt) (by omega) (by omega)
        rw [hs, hs2] at this
        exact this
      obtain ⟨A, m, c, k2, e2, X1, ⟨g1, g2⟩, g3, gs, gj, g4, g5⟩ := hg
      by_cases h0 : e2 = 0
      · obtain ⟨rfl, g6⟩ := g4 h0
        obtain ⟨g7, g8⟩ := g2 h0
        obtain ⟨A', c', e', -⟩ := lies_ownI g8
        rw [e'] at g8 ⊢
        rw [← g1, ← g7, h0]
        refine ⟨A', c', rfl, ownI_keep g8 (by omega) (fun j hj1 hj2 => ?_), g6, (Wr.of g HX.out.2.1).trans g3⟩
        exact gj j (by omega) (by omega)
      · obtain ⟨rfl, g6⟩ := g5 h0
        obtain ⟨g7, g8⟩ := rL_err (b := b) (k := k) (e := 0) (most := most) (by rw [← g1]; exact h0)
        rw [g8, g7, ← g1]
        exact ⟨none, 0, rfl, World.ownsRow_nil _ _ _ _, g6, (Wr.of g HX.out.2.1).trans g3⟩
    · rw [rL_e he]
      exact (read_no_ints hX he _).mono fun e w' hg => ⟨none, 0, hg.1, World.ownsRow_nil _ _ _ _, hg.2.1, (Wr.of g HX.out.2.1).trans hg.2.2⟩
  clear h hX hs2
  generalize (rL b k e0 most).2 = y at *
  generalize (rL b k e0 most).1.1 = k9 at *
  generalize (rL b k e0 most).1.2 = e9 at *
  generalize hyl : y.length = yn at *
  have HYL := Lib.hid hyl
  clear hyl
  go_enter Tryz.func52, Tryz.ntmps52
  go_wp2_with fail
  refine (KR.out).mono ?_
  rintro e w1 ⟨A, c, rfl, g0, g1, g2⟩
  have H0 := Lib.hid g0
  have H1 := Lib.hid g1
  have H2 := Lib.hid g2
  clear g0 g1 g2
  go_wp2
  go_ret
  exact ⟨A, c, rfl, H0.out, H1.out, H2.out⟩
end Go.Proofs.YtpoemflclbhekaaGreat

/-! Layer 21 (bin): End; what the statements ask of every program. -/
namespace Go.Proofs.YtpoemflclbhekaaGreat
open Go.RowKit
set_option linter.unusedVariables false
set_option linter.unusedSimpArgs false

/-- how a reader fails at its end -/
def endE (b : List Int) (k : Nat) (e : Int) : Int := if k < b.length then failE e 211 else e
theorem OwnsY.wr {w w' : World} {B g : Nat} {v : Value} {l : List Int} (h : OwnsY w B v l) (hw : Wr g w w') (hg : g < B) : OwnsY w' B v l := h.keep (Nat.le_refl _) (fun j h1 h2 => hw.block j h2 (by omega))
theorem ownI_wr {w w' : World} {B g : Nat} {v : Value} {l : List Int} (h : w.ownsRow B 3 1 v l.length (litI l)) (hw : Wr g w w') (hg : g < B) : w'.ownsRow B 3 1 v l.length (litI l) := ownI_keep h (Nat.le_refl _) (fun j h1 h2 => hw.block j h2 (by omega))
def bs21 : List Int := [241, 1, 0, 3, 2, 97, 98, 2, 10, 1]
theorem v21a : [] ++ uB 256 = [241, 1, 0] ∧ [241, 1, 0] ++ iB (-2) = [241, 1, 0, 3] ∧ [241, 1, 0, 3] ++ tB [97, 98] = [241, 1, 0, 3, 2, 97, 98] ∧ [241, 1, 0, 3, 2, 97, 98] ++ lB [5, -1] = bs21 := by
  refine ⟨?_, ?_, ?_, ?_⟩ <;> simp [uB, iB, tB, lB, fold, beB_pos, beB_0, bs21]
theorem v21b : rU bs21 0 0 = ((3, 0), 256) ∧ rU bs21 3 0 = ((4, 0), 3) ∧ rT bs21 4 0 2 = ((7, 0), [97, 98]) ∧ rL bs21 7 0 2 = ((10, 0), [5, -1]) ∧ endE bs21 10 0 = 0 ∧ rU [240, 239] 0 0 = ((0, 211), 0) ∧ unfoldI 3 = -2 ∧ bs21.length = 10 := by decide +kernel
theorem byt21 : byt bs21 ∧ byt [240, 239] := by
  constructor <;> (intro x hx; simp [bs21] at hx; omega)
theorem box_liesY {W : World} {g : Nat} {cs : Array Value} {l : List Int} {fr : Nat × Nat} (h : W.heap[g]? = some (.cells cs 5 fr)) (hc : cs = (litY l).toArray) : LiesY W W.heap.size (some ⟨g, 0, none⟩) l := fun h0 => by
  have hlt : g < W.heap.size := by
    rcases Nat.lt_or_ge g W.heap.size with h' | h'
    · exact h'
    · rw [Array.getElem?_eq_none h'] at h; cases h
  refine ⟨_, rfl, hlt, fun j hj => ?_⟩
  rw [addr_addY, cell_of_row W g j cs 5 fr h, hc]
  simp [litY, List.getD, hj]
end Go.Proofs.YtpoemflclbhekaaGreat
