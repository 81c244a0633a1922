import Derived.Test.YtkkeejbgaaodeaaPatR
import Derived.Test.YtkkeejbgaaodeaaPatL

/-! Layer 11's reference: Parents, Depths, Leaves. -/
namespace Go.Proofs.Ytkkeejbgaaodeaa
open Go.RowKit
set_option linter.unusedVariables false
set_option linter.unusedSimpArgs false

/-- the parents of the first i nodes -/
def parP (N : List TN) (i : Nat) : List Int := (List.range i).map (fun j : Nat => parK N (j : Int) N.length)
theorem parP_len (N : List TN) (i : Nat) : (parP N i).length = i := by simp [parP]
theorem parP_succ (N : List TN) (i : Nat) : parP N (i + 1) = parP N i ++ [parK N i N.length] := by simp [parP, List.range_succ]
theorem parL_yes {N : List TN} {dm : Int} (hT : isT N dm = true) : parL N dm = parP N N.length := by unfold parL parP; rw [if_pos hT]
theorem parL_no {N : List TN} {dm : Int} (hT : isT N dm = false) : parL N dm = [] := by unfold parL; rw [hT]; rfl
/-- the depths of the first i nodes -/
def depP (N : List TN) (dm : Int) (i : Nat) : List Int := (List.range i).map (fun j : Nat => (depN N dm j : Int))
theorem depP_len (N : List TN) (dm : Int) (i : Nat) : (depP N dm i).length = i := by simp [depP]
theorem depP_succ (N : List TN) (dm : Int) (i : Nat) : depP N dm (i + 1) = depP N dm i ++ [(depN N dm i : Int)] := by simp [depP, List.range_succ]
theorem depL_no {N : List TN} {dm : Int} (hT : isT N dm = false) : depL N dm = [] := by unfold depL; rw [allT_no hT]; rfl
theorem depL_yes {N : List TN} {dm : Int} (hT : isT N dm = true) : depL N dm = depP N dm N.length := by
  have hl := allT_len hT
  refine List.ext_getElem (by simp [depL, depP, hl]) (fun j h1 h2 => ?_)
  have h3 : j < N.length := by simpa [depP] using h2
  have h4 := depL_at hT h3
  rw [List.getD_eq_getElem?_getD, List.getElem?_eq_getElem h1, Option.getD_some] at h4
  rw [h4]
  simp [depP]
/-- the leaves among the first i nodes -/
def levK (N : List TN) : Nat → List Int
  | 0 => []
  | k + 1 => if (N.getD k tn0).lf = 0 then levK N k ++ [(k : Int)] else levK N k
def levV (N : List TN) (dm : Int) : List Int := if isT N dm = true then levK N N.length else []
theorem levK_len (N : List TN) : ∀ k, (levK N k).length ≤ k
  | 0 => by simp [levK]
  | k + 1 => by
    have := levK_len N k
    rw [levK]
    split
    · rw [List.length_append, List.length_singleton]; omega
    · omega
theorem givesI_nil {w w' : World} (h : Below w.heap.size w w') : GivesI [] w (.returned (.slice none 0 0)) w' :=
  ⟨none, 0, rfl, Nat.le_refl _, by unfold maxLen; omega, fun h1 => absurd h1 (by simp), h⟩
set_option maxRecDepth 100000 in
set_option maxHeartbeats 8000000 in
theorem ref_parents (N : List TN) (dim : Int) (A : Option Addr) (c B : Nat) (w : World) (hl : N.length ≤ 100000) (hA : LiesT w B A N) (hB : B ≤ w.heap.size) :
    Calls Try.prog 119 #[.agg #[.int .i64 dim, .slice A N.length c]] w (GivesI (parL N dim) w) := by
  have HX := Lib.hid ((Kpc.start w).alloc #[.int .i64 dim, .slice A N.length c] 24)
  obtain ⟨y0, y1⟩ := box_cut HX.out.head
  have KT : Hid (∀ W (h : Below w.heap.size w W), Calls Try.prog 16 #[.agg #[.int .i64 dim, .slice A N.length c]] W fun e w' => e = .returned (.bool (isT N dim)) ∧ Below W.heap.size W w') := fun W h => ref_isT N dim A c B W hl (hA.below (h.mono hB)) (Nat.le_trans hB h.size)
  cases h1 : isT N dim with
  | false =>
    rw [parL_no h1]
    rw [h1] at KT
    clear hA h1
    generalize N.length = M at *
    go_enter Try.func119, Try.ntmps119
    go_wp2_with fail
    refine (KT.out _ HX.out.2.1).mono ?_
    rintro e w1 ⟨rfl, b1⟩
    have J := Lib.hid (HX.out.below b1)
    go_wp2
    go_ret
    exact givesI_nil J.out.2.1
  | true =>
    rw [parL_yes h1]
    rw [h1] at KT
    have hlen := isT_len h1
    obtain ⟨ad, e0, hab, -, -⟩ := hA.at (k := 0) (by omega)
    subst e0
    have HC : Hid (∀ W (h : Below w.heap.size w W) k (hk : k < N.length), W.cell? ⟨(ad.add (k * 5)).block, (ad.add (k * 5)).off + 2, none⟩ = some (.int .i64 (N.getD k tn0).lf) ∧ W.cell? ⟨(ad.add (k * 5)).block, (ad.add (k * 5)).off + 3, none⟩ = some (.int .i64 (N.getD k tn0).rt)) := fun W h k hk => by
      obtain ⟨ad', e, _, ⟨hc0, hc1, hc2, hc3, _⟩, _⟩ := (hA.below (h.mono hB)).at hk
      cases e; exact ⟨hc2, hc3⟩
    have HPL := Lib.hid (parP_len N)
    have HPS := Lib.hid (parP_succ N)
    have HP0 : Hid (parP N 0 = []) := rfl
    have HK0 : Hid (∀ i : Nat, parK N i 0 = -1) := fun i => rfl
    have HKT : Hid (∀ i k : Nat, (0 < (N.getD k tn0).lf ∧ ((N.getD k tn0).lf = (i : Int) ∨ (N.getD k tn0).rt = (i : Int))) → parK N i (k + 1) = (k : Int)) := fun i k h => if_pos h
    have HKF : Hid (∀ i k : Nat, ¬ (0 < (N.getD k tn0).lf ∧ ((N.getD k tn0).lf = (i : Int) ∨ (N.getD k tn0).rt = (i : Int))) → parK N i (k + 1) = parK N i k) := fun i k h => if_neg h
    have HKB := Lib.hid (fun i k : Nat => parK_bd N i k)
    clear hA h1
    generalize hM : N.length = M at *
    clear hM
    generalize parP N = pp at *
    generalize parK N = pk at *
    go_enter Try.func119, Try.ntmps119
    go_wp2_with fail
    refine (KT.out _ HX.out.2.1).mono ?_
    rintro e w1 ⟨rfl, b1⟩
    have J := Lib.hid (HX.out.below b1)
    clear b1 y0 y1
    go_wp2
    go_loopw [3, 4] (fun v iv wr => ∃ i : Nat, i ≤ M ∧ iv = .int .i64 i ∧ Hid (wr.ownsRow w.heap.size 3 1 v (pp i).length (litI (pp i))) ∧ Hid (Kpc w.heap.size w [(w.heap.size, #[.int .i64 dim, .slice (some ad) M c], 24)] wr)) (fun _ iv _ => M - (intOf iv).toNat)
    case atStart =>
      refine ⟨0, by omega, rfl, ?_, J.out⟩
      show World.ownsRow _ _ _ _ _ _ _
      rw [HP0.out]
      exact World.ownsRow_nil _ _ _ _
    case round =>
      obtain ⟨i, hi, rfl, HO, HK⟩ := hrel
      obtain ⟨y0, y1⟩ := box_cut HK.out.head
      have hsz := HK.out.2.2
      by_cases hlt : i < M
      · have hlg : (i : Int) < (M : Int) := by omega
        have hll : (pp i).length + 1 ≤ 1000000000 := by rw [HPL.out]; omega
        go_wp2
        go_loopw [5, 6] (fun ov kv wq => ∃ k : Nat, k ≤ M ∧ kv = .int .i64 k ∧ ov = .int .i64 (pk i k) ∧ wq = wr) (fun _ kv _ => M - (intOf kv).toNat)
        case atStart => exact ⟨0, by omega, rfl, by rw [HK0.out], rfl⟩
        case round =>
          obtain ⟨k, hk, rfl, rfl, rfl⟩ := hrel
          by_cases hkt : k < M
          · have hkg : (k : Int) < (M : Int) := by omega
            obtain ⟨c2, c3⟩ := HC.out _ HK.out.2.1 k hkt
            have HS := Lib.hid (HKT.out i k)
            have HF := Lib.hid (HKF.out i k)
            generalize N.getD k tn0 = n at *
            obtain ⟨na, nc, nco, nlv, nlf, nrt, nsz⟩ := n
            simp only at *
            by_cases p0 : 0 < nlf
            · by_cases p1 : nlf = (i : Int)
              · have HS2 : Hid (pk i (k + 1) = (k : Int)) := by
                  show _ = _
                  exact HS.out ⟨p0, .inl p1⟩
                clear HS HF
                subst p1
                have q1 : ((i : Int) == (i : Int)) = true := by simp
                go_wp2
                exact ⟨⟨k + 1, by omega, by go_num, by rw [HS2.out], trivial⟩, by first | (simp [intOf]; done) | (simp [intOf]; omega)⟩
              · have q1 : (nlf == (i : Int)) = false := by simpa using p1
                by_cases p2 : nrt = (i : Int)
                · have HS2 : Hid (pk i (k + 1) = (k : Int)) := by
                    show _ = _
                    exact HS.out ⟨p0, .inr p2⟩
                  clear HS HF
                  subst p2
                  have q2 : ((i : Int) == (i : Int)) = true := by simp
                  go_wp2
                  exact ⟨⟨k + 1, by omega, by go_num, by rw [HS2.out], trivial⟩, by first | (simp [intOf]; done) | (simp [intOf]; omega)⟩
                · have HS2 : Hid (pk i (k + 1) = pk i k) := by
                    show _ = _
                    exact HF.out (fun h => by rcases h.2 with h | h; exact p1 h; exact p2 h)
                  clear HS HF
                  have q2 : (nrt == (i : Int)) = false := by simpa using p2
                  go_wp2
                  exact ⟨⟨k + 1, by omega, by go_num, by rw [HS2.out], trivial⟩, by first | (simp [intOf]; done) | (simp [intOf]; omega)⟩
            · have HS2 : Hid (pk i (k + 1) = pk i k) := by
                show _ = _
                exact HF.out (fun h => p0 h.1)
              clear HS HF
              go_wp2
              exact ⟨⟨k + 1, by omega, by go_num, by rw [HS2.out], trivial⟩, by first | (simp [intOf]; done) | (simp [intOf]; omega)⟩
          · obtain rfl : k = M := by omega
            go_wp2_with (at_builtin; refine app_int rfl (.tmp 52) (.tmp 54) rfl _ (pp i) (pk i k) rfl HO.out rfl hsz hll ?_; intro v' w4 hown4 hb4 hk4)
            refine ⟨⟨i + 1, by omega, by go_num, by show World.ownsRow _ _ _ _ _ _ _; rw [HPS.out]; exact hown4, ⟨fun x hx => ?_, HK.out.2.1.trans hb4, Nat.le_trans hsz hb4.size⟩⟩, by first | (simp [intOf]; done) | (simp [intOf]; omega)⟩
            simp at hx
            subst hx
            exact hk4 _ _ _ (show ¬ 24 = 3 by decide) HK.out.head
      · obtain rfl : i = M := by omega
        obtain ⟨A', c', rfl, g1, g2, g3⟩ := lies_ownI HO.out
        go_wp2
        go_ret
        exact ⟨A', c', by simp, g1, g2, g3, HK.out.2.1⟩
set_option maxRecDepth 100000 in
set_option maxHeartbeats 8000000 in
theorem ref_depths (N : List TN) (dim : Int) (A : Option Addr) (c B : Nat) (w : World) (hl : N.length ≤ 100000) (hA : LiesT w B A N) (hB : B ≤ w.heap.size) :
    Calls Try.prog 89 #[.agg #[.int .i64 dim, .slice A N.length c]] w (GivesI (depL N dim) w) := by
  have HX := Lib.hid ((Kpc.start w).alloc #[.int .i64 dim, .slice A N.length c] 24)
  obtain ⟨y0, y1⟩ := box_cut HX.out.head
  have KP := Lib.hid (ref_parents N dim A c B _ hl (hA.below (HX.out.2.1.mono hB)) (Nat.le_trans hB HX.out.2.1.size))
  unfold GivesI at KP
  cases h1 : isT N dim with
  | false =>
    rw [depL_no h1]
    rw [parL_no h1] at KP
    clear hA h1
    simp only [List.length_nil] at KP
    generalize N.length = M at *
    go_enter Try.func89, Try.ntmps89
    go_wp2_with fail
    refine KP.out.mono ?_
    rintro e w1 ⟨A1, c1, rfl, -, -, -, b1⟩
    have J := Lib.hid (HX.out.below b1)
    go_wp2
    go_loopw [4, 5] (fun v iv wr => v = .slice none 0 0 ∧ iv = .int .i64 0 ∧ wr = w1) (fun _ iv _ => 0)
    case atStart => exact ⟨rfl, rfl, rfl⟩
    case round =>
      obtain ⟨rfl, rfl, rfl⟩ := hrel
      go_wp2
      go_ret
      exact givesI_nil J.out.2.1
  | true =>
    rw [depL_yes h1]
    have hlen := isT_len h1
    have HPA := Lib.hid (fun j hj => parL_at (N := N) (dm := dim) h1 (j := j) hj)
    have HPL := Lib.hid (parL_len h1)
    have HDL := Lib.hid (depP_len N dim)
    have HDS := Lib.hid (depP_succ N dim)
    have HD0 : Hid (depP N dim 0 = []) := rfl
    have HZ1 := Lib.hid (par_zero h1)
    have HZ2 := Lib.hid (depN_zero h1)
    have HZ3 := Lib.hid (fun j h0 hj => par_at h1 (j := j) h0 hj)
    have HLE := Lib.hid (fun j hj => depN_le h1 j j (Nat.le_refl _) hj)
    clear hA h1
    generalize parL N dim = pl at *
    generalize hM : N.length = M at *
    clear hM
    generalize depP N dim = pp at *
    generalize depN N dim = D at *
    generalize parK N = pk at *
    go_enter Try.func89, Try.ntmps89
    go_wp2_with fail
    refine KP.out.mono ?_
    rintro e w1 ⟨A1, c1, rfl, -, -, l1, b1⟩
    have J := Lib.hid (HX.out.below b1)
    have hpl := HPL.out
    obtain ⟨ad, eA, hab, hc1⟩ := l1 (by omega)
    subst eA
    have HU : Hid (∀ W, Below w1.heap.size w1 W → ∀ j, j < M → W.cell? (ad.add j) = some (.int .i64 (pk j M))) := fun W h j hj => by
      rw [← HPA.out j hj, ← hc1 j (by omega)]
      exact h.cell (by rw [add_block]; exact hab)
    rw [hpl]
    clear b1 y0 y1 l1 hc1
    have hsz0 := J.out.2.2
    go_wp2
    go_loopw [4, 5] (fun v iv wr => ∃ i : Nat, i ≤ M ∧ iv = .int .i64 i ∧ Hid (wr.ownsRow w1.heap.size 3 1 v (pp i).length (litI (pp i))) ∧ Hid (Below w1.heap.size w1 wr)) (fun _ iv _ => M - (intOf iv).toNat)
    case atStart =>
      refine ⟨0, by omega, rfl, ?_, Below.refl _ _⟩
      show World.ownsRow _ _ _ _ _ _ _
      rw [HD0.out]
      exact World.ownsRow_nil _ _ _ _
    case round =>
      obtain ⟨i, hi, rfl, HO, HB⟩ := hrel
      have hsz := HB.out.size
      by_cases hlt : i < M
      · have hlg : (i : Int) < (M : Int) := by omega
        have hll : (pp i).length + 1 ≤ 1000000000 := by rw [HDL.out]; omega
        have u0 := HU.out _ HB.out i hlt
        have hDi := HLE.out i hlt
        go_wp2
        go_loopw [6, 7] (fun nv kv wq => ∃ (n : Nat) (cur : Int), nv = .int .i64 n ∧ kv = .int .i64 cur ∧ ((cur = -1 ∧ n = D i) ∨ ∃ p : Nat, cur = p ∧ p < M ∧ n + D p + 1 = D i) ∧ wq = wr) (fun _ kv _ => (intOf kv + 1).toNat)
        case atStart =>
          refine ⟨0, _, rfl, rfl, ?_, rfl⟩
          rcases Nat.eq_zero_or_pos i with h0 | h0
          · subst h0
            exact .inl ⟨HZ1.out, HZ2.out.symm⟩
          · obtain ⟨p, q1, q2, q3⟩ := HZ3.out i h0 hlt
            exact .inr ⟨p, q1, by omega, by omega⟩
        case round =>
          obtain ⟨n, cur, rfl, rfl, hc, rfl⟩ := hrel
          rcases hc with ⟨rfl, hn⟩ | ⟨p, rfl, hp, hn⟩
          · subst hn
            go_wp2_with (at_builtin; refine app_int rfl (.tmp 28) (.tmp 30) rfl _ (pp i) (D i : Int) rfl HO.out rfl hsz hll ?_; intro v' w4 hown4 hb4 hk4)
            exact ⟨⟨i + 1, by omega, by go_num, by show World.ownsRow _ _ _ _ _ _ _; rw [HDS.out]; exact hown4, HB.out.trans hb4⟩, by first | (simp [intOf]; done) | (simp [intOf]; omega)⟩
          · have hpg : (p : Int) < (M : Int) := by omega
            have hp0 : ¬ (p : Int) < 0 := by omega
            have u1 := HU.out _ HB.out p hp
            have hnb : (n : Int) ≤ 100000 := by omega
            have HN : Hid ((pk p M = -1 ∧ n + 1 = D i) ∨ ∃ p' : Nat, pk p M = p' ∧ p' < p ∧ n + 1 + D p' + 1 = D i) := by
              rcases Nat.eq_zero_or_pos p with h0 | h0
              · subst h0
                exact .inl ⟨HZ1.out, by have := HZ2.out; omega⟩
              · obtain ⟨p', q1, q2, q3⟩ := HZ3.out p h0 hp
                exact .inr ⟨p', q1, q2, by omega⟩
            generalize pk p M = cr at *
            go_wp2
            rcases HN.out with ⟨e1, e2⟩ | ⟨p', e1, e2, e3⟩
            · subst e1
              exact ⟨⟨n + 1, -1, by go_num, rfl, .inl ⟨rfl, e2⟩, trivial⟩, by simp [intOf]⟩
            · subst e1
              exact ⟨⟨n + 1, p', by go_num, rfl, .inr ⟨p', rfl, by omega, e3⟩, trivial⟩, by simp [intOf]; omega⟩
      · obtain rfl : i = M := by omega
        obtain ⟨A', c', rfl, g1, g2, g3⟩ := lies_ownI HO.out
        go_wp2
        go_ret
        exact ⟨A', c', by simp, g1, g2, g3, J.out.2.1.trans (HB.out.mono hsz0)⟩
set_option maxRecDepth 100000 in
set_option maxHeartbeats 8000000 in
theorem ref_leaves (N : List TN) (dim : Int) (A : Option Addr) (c B : Nat) (w : World) (hl : N.length ≤ 100000) (hA : LiesT w B A N) (hB : B ≤ w.heap.size) :
    Calls Try.prog 65 #[.agg #[.int .i64 dim, .slice A N.length c]] w (GivesI (levV N dim) w) := by
  have HX := Lib.hid ((Kpc.start w).alloc #[.int .i64 dim, .slice A N.length c] 24)
  obtain ⟨y0, y1⟩ := box_cut HX.out.head
  have KT : Hid (∀ W (h : Below w.heap.size w W), Calls Try.prog 16 #[.agg #[.int .i64 dim, .slice A N.length c]] W fun e w' => e = .returned (.bool (isT N dim)) ∧ Below W.heap.size W w') := fun W h => ref_isT N dim A c B W hl (hA.below (h.mono hB)) (Nat.le_trans hB h.size)
  cases h1 : isT N dim with
  | false =>
    have hv : levV N dim = [] := by unfold levV; rw [h1]; rfl
    rw [hv]
    rw [h1] at KT
    clear hA h1 hv
    generalize N.length = M at *
    go_enter Try.func65, Try.ntmps65
    go_wp2
    go_loopw [3, 4] (fun v iv wr => v = .slice none 0 0 ∧ iv = .int .i64 0 ∧ wr = w.alloc (.cells #[.int .i64 dim, .slice A M c] 24)) (fun _ iv _ => 0)
    case atStart => exact ⟨rfl, rfl, rfl⟩
    case round =>
      obtain ⟨rfl, rfl, rfl⟩ := hrel
      by_cases hM0 : (0 : Int) < (M : Int)
      · go_wp2_with fail
        refine (KT.out _ HX.out.2.1).mono ?_
        rintro e w1 ⟨rfl, b1⟩
        have J := Lib.hid (HX.out.below b1)
        go_wp2
        go_ret
        exact givesI_nil J.out.2.1
      · go_wp2
        go_ret
        exact givesI_nil HX.out.2.1
  | true =>
    have hv : levV N dim = levK N N.length := by unfold levV; rw [if_pos h1]
    rw [hv]
    rw [h1] at KT
    have hlen := isT_len h1
    obtain ⟨ad, e0, hab, -, -⟩ := hA.at (k := 0) (by omega)
    subst e0
    have HC : Hid (∀ W (h : Below w.heap.size w W) k (hk : k < N.length), W.cell? ⟨(ad.add (k * 5)).block, (ad.add (k * 5)).off + 2, none⟩ = some (.int .i64 (N.getD k tn0).lf)) := fun W h k hk => by
      obtain ⟨ad', e, _, ⟨hc0, hc1, hc2, hc3, _⟩, _⟩ := (hA.below (h.mono hB)).at hk
      cases e; exact hc2
    have HLL := Lib.hid (levK_len N)
    have HLS : Hid (∀ k, levK N (k + 1) = if (N.getD k tn0).lf = 0 then levK N k ++ [(k : Int)] else levK N k) := fun k => rfl
    have HL0 : Hid (levK N 0 = []) := rfl
    clear hA h1 hv
    generalize hM : N.length = M at *
    clear hM
    generalize levK N = pp at *
    go_enter Try.func65, Try.ntmps65
    go_wp2
    go_loopw [3, 4] (fun v iv wr => ∃ i : Nat, i ≤ M ∧ iv = .int .i64 i ∧ Hid (wr.ownsRow w.heap.size 3 1 v (pp i).length (litI (pp i))) ∧ Hid (Kpc w.heap.size w [(w.heap.size, #[.int .i64 dim, .slice (some ad) M c], 24)] wr)) (fun _ iv _ => M - (intOf iv).toNat)
    case atStart =>
      refine ⟨0, by omega, rfl, ?_, HX.out⟩
      show World.ownsRow _ _ _ _ _ _ _
      rw [HL0.out]
      exact World.ownsRow_nil _ _ _ _
    case round =>
      obtain ⟨i, hi, rfl, HO, HK⟩ := hrel
      clear y0 y1
      obtain ⟨y0, y1⟩ := box_cut HK.out.head
      by_cases hlt : i < M
      · have hlg : (i : Int) < (M : Int) := by omega
        have hll : (pp i).length + 1 ≤ 1000000000 := by have := HLL.out i; omega
        have HS := Lib.hid (HLS.out i)
        go_wp2_with fail
        refine (KT.out _ HK.out.2.1).mono ?_
        rintro e w1 ⟨rfl, b1⟩
        have J := Lib.hid (HK.out.below b1)
        have HO1 := Lib.hid (ownI_below HO.out b1)
        have c2 := HC.out _ J.out.2.1 i hlt
        have hsz := J.out.2.2
        clear b1 y0 y1
        obtain ⟨y0, y1⟩ := box_cut J.out.head
        generalize (N.getD i tn0).lf = lf at *
        by_cases h0 : lf = 0
        · subst h0
          have HS2 : Hid (pp (i + 1) = pp i ++ [(i : Int)]) := by
            show _ = _
            rw [HS.out, if_pos rfl]
          go_wp2_with (at_builtin; refine app_int rfl (.tmp 23) (.tmp 25) rfl _ (pp i) (i : Int) rfl HO1.out rfl hsz hll ?_; intro v' w4 hown4 hb4 hk4)
          refine ⟨⟨i + 1, by omega, by go_num, by show World.ownsRow _ _ _ _ _ _ _; rw [HS2.out]; exact hown4, ⟨fun x hx => ?_, J.out.2.1.trans hb4, Nat.le_trans hsz hb4.size⟩⟩, by first | (simp [intOf]; done) | (simp [intOf]; omega)⟩
          simp at hx
          subst hx
          exact hk4 _ _ _ (show ¬ 24 = 3 by decide) J.out.head
        · have HS2 : Hid (pp (i + 1) = pp i) := by
            show _ = _
            rw [HS.out, if_neg h0]
          have q0 : (lf == 0) = false := by simpa using h0
          go_wp2
          exact ⟨⟨i + 1, by omega, by go_num, by show World.ownsRow _ _ _ _ _ _ _; rw [HS2.out]; exact HO1.out, J.out⟩, by first | (simp [intOf]; done) | (simp [intOf]; omega)⟩
      · obtain rfl : i = M := by omega
        obtain ⟨A', c', rfl, g1, g2, g3⟩ := lies_ownI HO.out
        go_wp2
        go_ret
        exact ⟨A', c', by simp, g1, g2, g3, HK.out.2.1⟩
end Go.Proofs.Ytkkeejbgaaodeaa
