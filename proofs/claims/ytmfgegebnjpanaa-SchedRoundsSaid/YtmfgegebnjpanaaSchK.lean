/- Layer 20 (sched): Plan of the reference. -/
import Derived.Test.YtmfgegebnjpanaaSchI
namespace Go.Proofs.Ytmfgegebnjpanaa
open Go.RowKit
set_option linter.unusedVariables false
set_option linter.unusedSimpArgs false

/-- the count at which turn k is waited for -/
def atK (ev X n : Int) (k : Nat) : Int := if k = 0 then n else X + ev * ((k - 1 : Nat) : Int)
theorem atK_next {sam ev n : Int} (hev : 1 ≤ ev) (hs : 1 ≤ sam) (k : Nat) : nextV sam ev (atK ev (nextV sam ev n) n k) = nextV sam ev n + ev * k := by
  obtain ⟨h1, h2⟩ := next_turn (sam := sam) (n := n) hev
  unfold atK
  by_cases hk : k = 0
  · subst hk; simp
  · rw [if_neg hk]
    have q : 0 ≤ ev * ((k - 1 : Nat) : Int) := Int.mul_nonneg (by omega) (by omega)
    rw [next_again hev (by omega) (by rw [Int.add_mul_emod_self_left]; exact h2)]
    rw [show (k : Int) = ((k - 1 : Nat) : Int) + 1 from by omega, Int.mul_add, Int.mul_one]
    omega
theorem atK_bd {sam ev n : Int} (hev : 1 ≤ ev) (he2 : ev ≤ 256) (hn : 0 ≤ n) (k : Nat) (hk : k ≤ 64) : 0 ≤ atK ev (nextV sam ev n) n k ∧ atK ev (nextV sam ev n) n k ≤ nextV sam ev n + 16384 := by
  have hb := next_bd (sam := sam) (n := n) hev
  unfold atK
  by_cases h0 : k = 0
  · rw [if_pos h0]; omega
  · rw [if_neg h0]
    have q : 0 ≤ ev * ((k - 1 : Nat) : Int) := Int.mul_nonneg (by omega) (by omega)
    have q2 : ev * ((k - 1 : Nat) : Int) ≤ 256 * ((k - 1 : Nat) : Int) := Int.mul_le_mul_of_nonneg_right he2 (by omega)
    omega
theorem own_emptyI (w : World) {B : Nat} (hB : B ≤ w.heap.size) : (w.alloc (.cells #[] 3)).ownsRow B 3 1 (.slice (some ⟨w.heap.size, 0, none⟩) 0 0) ([] : List Int).length (litI []) :=
  ⟨rfl, .inr ⟨w.heap.size, 0, #[], rfl, hB, Box.new w #[] 3, Nat.le_refl _, by unfold maxLen; omega, rfl, rfl⟩⟩
set_option maxRecDepth 100000 in
set_option maxHeartbeats 8000000 in
theorem ref20_Plan_ok (dim win sam ev kind part whole tries keep notes : Int) (T : Nat) (n : Int) (b : List Int) (t : Nat) (A : Option Addr) (c : Nat) (w : World) (hok : CfOk dim win (T : Nat) sam ev kind part whole tries keep notes) (hn : inC n) (hf : fitB T n b) (ht : t ≤ 64) (hA : Lies w w.heap.size A b) :
    Calls Try.prog 67 #[cfV dim win (T : Nat) sam ev kind part whole tries keep notes, .int .i64 n, .slice A b.length c, .int .i64 t] w (GivesPl (plI T ev (nextV sam ev n) b t) (plB T ev (nextV sam ev n) b t) 0 w) := by
  have HX := Lib.hid (Box.new w #[.int .i64 dim, .int .i64 win, .int .i64 ((T : Nat) : Int), .int .i64 sam, .int .i64 ev, .int .i64 kind, .int .i64 part, .int .i64 whole, .int .i64 tries, .int .i64 keep, .int .i64 notes] 88)
  obtain ⟨y0, y1, y2, y3, y4, y5, y6, y7, y8, y9, y10⟩ := box11 HX.out
  have HB := Lib.hid ((Below.refl w.heap.size w).alloc (Nat.le_refl _) (.cells #[.int .i64 dim, .int .i64 win, .int .i64 ((T : Nat) : Int), .int .i64 sam, .int .i64 ev, .int .i64 kind, .int .i64 part, .int .i64 whole, .int .i64 tries, .int .i64 keep, .int .i64 notes] 88))
  have K1 := Lib.hid (fun W => ref20_Right dim win (T : Nat) sam ev kind part whole tries keep notes W)
  rw [okB.1 hok] at K1
  have hev : 1 ≤ ev ∧ ev ≤ 256 := by unfold CfOk at hok; omega
  have hsa : 2 ≤ sam ∧ sam ≤ 64 := by unfold CfOk at hok; omega
  have htr : 1 ≤ T ∧ T ≤ 16 := by unfold CfOk at hok; omega
  have HA := Lib.hid (fun W (h : Below w.heap.size w W) => (hA.below h).mono h.size)
  have HC : Hid (0 < b.length → ∃ ad : Addr, A = some ad ∧ ∀ wr, Below w.heap.size w wr → ∀ j, j < b.length → wr.cell? (ad.add j) = some (.int .i64 (b.getD j 0))) := by
    intro h0
    obtain ⟨ad, rfl, hadb, hc⟩ := hA h0
    exact ⟨ad, rfl, fun wr hb j hj => (hb.cell (by rw [add_block]; omega)).trans (hc j hj)⟩
  have KN := Lib.hid (fun W => ref20_in n 0 1099511627776 W)
  rw [show decide (0 ≤ n ∧ n ≤ 1099511627776) = true from decide_eq_true hn] at KN
  have KT := Lib.hid (fun W => ref20_in (t : Int) 0 64 W)
  rw [show decide (0 ≤ (t : Int) ∧ (t : Int) ≤ 64) = true from decide_eq_true (by omega)] at KT
  have KB : Hid (∀ j, j < b.length → ∀ W, Calls Try.prog 105 #[.int .i64 (b.getD j 0), .int .i64 0, .int .i64 n] W fun e w' => e = .returned (.bool true) ∧ W = w') := by
    intro j hj W
    have h := ref20_in (b.getD j 0) 0 n W
    rw [decide_eq_true (hf.2 _ (by rw [List.getD_eq_getElem?_getD, List.getElem?_eq_getElem hj]; exact List.getElem_mem _))] at h
    exact h
  have K4 := Lib.hid (fun (l : List Int) A c W (h : Lies W W.heap.size A l) (hl : l.length ≤ 1000000) => ref20_place dim win sam ev kind part whole tries keep notes T A l c W.heap.size W h (Nat.le_refl _) (by omega) (by omega) hl)
  have KU := Lib.hid (fun m W hm => ref20_Turn dim win (T : Nat) sam ev kind part whole tries keep notes m W hev hsa hm)
  have hXb := next_bd (sam := sam) (n := n) hev.1
  unfold inC at hn
  have HT := Lib.hid (fun m => next_turn (sam := sam) (n := m) hev.1)
  have HLE := Lib.hid (fun c0 m (h1 : c0 < m) h2 => next_least (sam := sam) hev.1 h1 h2)
  have HNB := Lib.hid (fun c0 => next_bd (sam := sam) (n := c0) hev.1)
  have HK := Lib.hid (fun k => atK_next (sam := sam) (n := n) hev.1 (by omega) k)
  have HKB := Lib.hid (fun k hk => atK_bd (sam := sam) (n := n) hev.1 hev.2 hn.1 k hk)
  have HL := Lib.hid (plB_len (ev := ev) (n := nextV sam ev n) hf.1)
  have HLI := Lib.hid (plI_len T ev (nextV sam ev n) b)
  have hbl := hf.1
  have HS1 := Lib.hid (plI_succ T ev (nextV sam ev n) b)
  have HS2 := Lib.hid (fun k => plB_app (T := T) (ev := ev) (X := nextV sam ev n) (b := b) (k := k))
  have HS3 := Lib.hid (fun k => plB_set (T := T) (ev := ev) (X := nextV sam ev n) (b := b) (k := k))
  have HPL := Lib.hid (fun (l : List Int) h => placeV_full (tr := T) (b := l) (by omega) h)
  have HPA : Hid (∀ l : List Int, l.length < T → placeV T l = l.length) := fun l h => by unfold placeV; rw [if_pos h]
  have HK0 : Hid (n = atK ev (nextV sam ev n) n 0) := rfl
  have HKS : Hid (∀ k : Nat, nextV sam ev n + ev * (k : Int) = atK ev (nextV sam ev n) n (k + 1)) := fun k => by unfold atK; rw [if_neg (by omega)]; rfl
  generalize hX : nextV sam ev n = X at *
  clear hX
  clear hok hf hA
  generalize hN : b.length = N at *
  have HN := Lib.hid hN
  clear hN
  have hlt0 : ¬ (T : Int) < (N : Int) := by omega
  have hltd : decide (T < N) = false := decide_eq_false (by omega)
  have HS0 := Lib.hid (show Value.slice A N c = .slice A b.length c from by rw [HN.out])
  have hnl : ([] : List Int).length + b.length ≤ 1000000000 := by rw [HN.out]; simp; omega
  go_enter Try.func67, Try.ntmps67
  go_wp2_with fail
  refine (K1.out _).mono ?_
  rintro e w1 ⟨rfl, b1⟩
  have HX1 := Lib.hid (HX.out.below b1 HX.out.lt)
  have HB1 := Lib.hid (HB.out.trans (b1.mono HB.out.size))
  clear b1 y0 y1 y2 y3 y4 y5 y6 y7 y8 y9 y10 HX HB K1
  obtain ⟨y0, y1, y2, y3, y4, y5, y6, y7, y8, y9, y10⟩ := box11 HX1.out
  go_wp2_with fail
  refine (KN.out _).mono ?_
  rintro e w2 ⟨rfl, rfl⟩
  go_wp2_with fail
  refine (KT.out _).mono ?_
  rintro e w2 ⟨rfl, rfl⟩
  go_wp2
  go_loop [11] (fun i => ∃ k : Nat, k ≤ N ∧ i = .int .i64 k) (fun i => N - (intOf i).toNat)
  case atStart => exact ⟨0, by omega, rfl⟩
  case round =>
    obtain ⟨k, hk, rfl⟩ := hrel
    by_cases hlt : k < N
    · have hki : (k : Int) < (N : Int) := by omega
      obtain ⟨ad, rfl, hc⟩ := HC.out (by omega)
      have c1 := hc _ HB1.out k hlt
      have KBk := Lib.hid (KB.out k hlt)
      clear hc HC KB HA HS0
      generalize b.getD k 0 = x at *
      go_wp2_with fail
      refine (KBk.out _).mono ?_
      rintro e w2 ⟨rfl, rfl⟩
      go_wp2
      exact ⟨⟨k + 1, by omega, by go_num⟩, by simp [intOf]; omega⟩
    · obtain rfl : k = N := by omega
      have hs1 : w.heap.size + 1 ≤ w1.heap.size := HX1.out.lt
      clear HC KB KN KT
      have hs2 : w.heap.size + 1 ≤ (w1.alloc (.cells #[] 3)).heap.size := by rw [alloc_size']; omega
      have hbe := Lib.hid ((Below.refl w1.heap.size w1).alloc (Nat.le_refl _) (.cells #[] 3))
      have hbe2 := Lib.hid (HB1.out.trans (hbe.out.mono HB1.out.size))
      have hoe := Lib.hid (own_emptyI w1 hs1)
      go_wp2_with (at_builtin; refine app_rowI rfl (.tmp 48) (.tmp 49) rfl (.slice (some ⟨w1.heap.size, 0, none⟩) 0 0) [] b A c (w1.alloc (.cells #[] 3)).heap.size rfl hoe.out HS0.out (HA.out _ hbe2.out) hs2 hnl ?_; intro va w3 hva b3)
      have HT3 : Hid (Two (w.heap.size + 1) w3 (.slice none 0 0) (plI T ev X b 0) va (plB T ev X b 0)) := ⟨World.ownsRow_nil _ _ _ _, (by rw [List.nil_append] at hva; exact hva), .inl rfl⟩
      have HX3 := Lib.hid ((HX1.out.below hbe.out HX1.out.lt).below b3 (Nat.lt_succ_self _))
      have HB3 := Lib.hid (hbe2.out.trans (b3.mono (Nat.le_succ _)))
      clear b3 hva hbe hbe2 hoe y0 y1 y2 y3 y4 y5 y6 y7 y8 y9 y10 HX1 HB1 HA HS0
      go_loopw [15, 13, 12, 14] (fun i p q m wr => ∃ (k : Nat) (p' q' : Value), p' = p ∧ q' = q ∧ k ≤ t ∧ i = .int .i64 k ∧ m = .int .i64 (atK ev X n k) ∧ Hid (Two (w.heap.size + 1) wr p (plI T ev X b k) q (plB T ev X b k)) ∧ Hid (Box wr w.heap.size #[.int .i64 dim, .int .i64 win, .int .i64 ((T : Nat) : Int), .int .i64 sam, .int .i64 ev, .int .i64 kind, .int .i64 part, .int .i64 whole, .int .i64 tries, .int .i64 keep, .int .i64 notes] 88) ∧ Hid (Below w.heap.size w wr)) (fun i _ _ _ _ => t - (intOf i).toNat)
      case atStart => exact ⟨0, _, _, rfl, rfl, by omega, rfl, by rw [← HK0.out], HT3, HX3, HB3⟩
      case round =>
        obtain ⟨k, p, q, rfl, rfl, hk2, rfl, rfl, HTw, HXw, HBw⟩ := hrel
        clear HT3 HX3 HB3
        by_cases hltt : k < t
        · have hkt : (k : Int) < (t : Int) := by omega
          have hab := HKB.out k (by omega)
          have hnb := HNB.out (atK ev X n k)
          have HTk := Lib.hid (HT.out (atK ev X n k))
          have HLk := Lib.hid (HLE.out (atK ev X n k))
          rw [HK.out k] at hnb HTk HLk
          have HKSk := Lib.hid (HKS.out k)
          have hek : 0 ≤ ev * (k : Int) := Int.mul_nonneg (by omega) (by omega)
          have hek2 : ev * (k : Int) ≤ 256 * (k : Int) := Int.mul_le_mul_of_nonneg_right hev.2 (by omega)
          have HS1k := Lib.hid (HS1.out k)
          have HS2k := Lib.hid (HS2.out k)
          have HS3k := Lib.hid (HS3.out k)
          have HPLk := Lib.hid (HPL.out (plB T ev X b k))
          have HPAk := Lib.hid (HPA.out (plB T ev X b k))
          have hLlen := HL.out k
          have HLIk := Lib.hid (HLI.out k)
          clear HKS HS1 HS2 HS3 HPL HPA HT HLE HNB HK HKB HL HLI HK0
          generalize hc0 : atK ev X n k = c0 at *
          clear hc0
          generalize hc1 : atK ev X n (k + 1) = c1 at *
          have HC1 := Lib.hid hc1
          clear hc1
          generalize hI' : plI T ev X b (k + 1) = I' at *
          have HI' := Lib.hid hI'
          clear hI'
          generalize hL' : plB T ev X b (k + 1) = L' at *
          have HL' := Lib.hid hL'
          clear hL'
          generalize plI T ev X b k = I at *
          generalize plB T ev X b k = L at *
          generalize ev * (k : Int) = E at *
          obtain ⟨Y, hY⟩ : ∃ Y, X + E = Y := ⟨_, rfl⟩
          rw [hY] at hnb HTk HLk HKSk HS2k HS3k
          have HY := Lib.hid hY
          have hYb : Y ≤ 1099511627776 + 20000 := by omega
          clear hY
          have hm1 : wrap64 (c0 + 1) = c0 + 1 := by unfold wrap64; omega
          go_wp2
          go_loopw [14] (fun i wr => ∃ m : Int, i = .int .i64 m ∧ c0 < m ∧ m ≤ Y ∧ Hid (Two (w.heap.size + 1) wr p I q L) ∧ Hid (Box wr w.heap.size #[.int .i64 dim, .int .i64 win, .int .i64 ((T : Nat) : Int), .int .i64 sam, .int .i64 ev, .int .i64 kind, .int .i64 part, .int .i64 whole, .int .i64 tries, .int .i64 keep, .int .i64 notes] 88) ∧ Hid (Below w.heap.size w wr)) (fun i _ => (Y - intOf i).toNat)
          case atStart => exact ⟨c0 + 1, by go_num, by omega, by omega, HTw, HXw, HBw⟩
          case round =>
            obtain ⟨m, rfl, hm1, hm2, HT2, HX2, HB2⟩ := hrel
            clear HTw HXw HBw
            obtain ⟨y0, y1, y2, y3, y4, y5, y6, y7, y8, y9, y10⟩ := box11 HX2.out
            by_cases hlt : m < Y
            · have hd := decide_eq_false (HLk.out m hm1 hlt)
              have K3 := Lib.hid (fun W => KU.out m W (by unfold I64; omega))
              rw [hd] at K3
              clear hd HTk HLk KU
              go_wp2_with fail
              refine (K3.out _).mono ?_
              rintro e w3 ⟨rfl, b3⟩
              have HT3 := Lib.hid (HT2.out.below b3)
              have HX3 := Lib.hid (HX2.out.below b3 HX2.out.lt)
              have HB3 := Lib.hid (HB2.out.trans (b3.mono HB2.out.size))
              clear b3 y0 y1 y2 y3 y4 y5 y6 y7 y8 y9 y10 HX2 HB2 HT2
              go_wp2
              exact ⟨⟨m + 1, by go_num, by omega, by omega, HT3, HX3, HB3⟩, by simp [intOf]; omega⟩
            · obtain rfl : m = Y := by omega
              have hd := decide_eq_true HTk.out
              have K3 := Lib.hid (fun W => KU.out m W (by unfold I64; omega))
              rw [hd] at K3
              clear hd HTk HLk KU
              go_wp2_with fail
              refine (K3.out _).mono ?_
              rintro e w3 ⟨rfl, b3⟩
              have HT3 := Lib.hid (HT2.out.below b3)
              have HX3 := Lib.hid (HX2.out.below b3 HX2.out.lt)
              have HB3 := Lib.hid (HB2.out.trans (b3.mono HB2.out.size))
              clear b3 y0 y1 y2 y3 y4 y5 y6 y7 y8 y9 y10 HX2 HB2 HT2 K3
              obtain ⟨y0, y1, y2, y3, y4, y5, y6, y7, y8, y9, y10⟩ := box11 HX3.out
              have hs3 := HX3.out.lt
              by_cases hfull : L.length < T
              · have S2 := Lib.hid (HS2k.out hfull)
                have hP := HPAk.out hfull
                obtain ⟨A2, c2, hq, _, _, L2⟩ := lies_ownI HT3.out.b
                subst hq
                have K5 := Lib.hid (K4.out _ A2 c2 w3 L2 (by omega))
                rw [hP] at K5 HS1k
                clear K4 HS2k HS3k HPLk HPAk L2 hP
                obtain ⟨M, hM⟩ : ∃ M, L.length = M := ⟨_, rfl⟩
                have HM := Lib.hid hM
                rw [hM] at K5 HS1k hfull hLlen ⊢
                rw [hM] at HT3
                clear hM
                have hpe : ((M : Int) == (M : Int)) = true := by simp
                go_wp2_with fail
                refine (K5.out).mono ?_
                rintro e w5 ⟨rfl, b5⟩
                have HT5 := Lib.hid (HT3.out.below b5)
                have HX5 := Lib.hid (HX3.out.below b5 HX3.out.lt)
                have HB5 := Lib.hid (HB3.out.trans (b5.mono HB3.out.size))
                have hs5 := HX5.out.lt
                clear b5 y0 y1 y2 y3 y4 y5 y6 y7 y8 y9 y10 HT3 HX3 HB3
                go_wp2_with (first | (at_builtin; refine app_int_at rfl (.tmp 68) (.tmp 70) rfl _ I (M : Int) _ L rfl HT5.out.a HT5.out.b HT5.out.c rfl hs5 (by rw [HLIk.out]; omega) ?_; intro v6 w6 hT6 b6; have HX6 := Lib.hid (HX5.out.below b6 (Nat.lt_succ_self _)); have HB6 := Lib.hid (HB5.out.trans (b6.mono (Nat.le_succ _))); have hs6 := HX6.out.lt; rw [HS1k.out] at hT6) | (at_builtin; refine app_int_at rfl (.tmp 76) (.tmp 78) rfl _ L m _ I' rfl hT6.b hT6.a hT6.swap.c rfl hs6 (by rw [HM.out]; omega) ?_; intro v7 w7 hT7 b7; have HX7 := Lib.hid (HX6.out.below b7 (Nat.lt_succ_self _)); have HB7 := Lib.hid (HB6.out.trans (b7.mono (Nat.le_succ _)))))
                rw [S2.out] at hT7
                exact ⟨⟨k + 1, _, _, rfl, rfl, by omega, by go_num, by rw [HC1.out, ← HKSk.out], Lib.hid (by rw [HI'.out, HL'.out]; exact hT7.swap), HX7, HB7⟩, by simp [intOf]; omega⟩
              · have S2 := Lib.hid (HS3k.out hfull)
                have hP := HPLk.out hfull
                obtain ⟨g, c2, hq, hg, hc2, hO⟩ := own_to HT3.out.b (by omega)
                subst hq
                have K5 := Lib.hid (K4.out _ (some ⟨g, 0, none⟩) c2 w3 hO.lies (by omega))
                clear K4 HS2k HS3k HPLk HPAk hO
                generalize placeV T L = P at *
                obtain ⟨M, hM⟩ : ∃ M, L.length = M := ⟨_, rfl⟩
                have HM := Lib.hid hM
                rw [hM] at K5 hfull hLlen hP ⊢
                rw [hM] at HT3
                clear hM
                have hpe : ((P : Int) == (M : Int)) = false := by simp; omega
                have hpm : (P : Int) < (M : Int) := by omega
                have n1 : ¬ w.heap.size = g := by omega
                have n2 : ¬ g = w.heap.size := by omega
                go_wp2_with fail
                refine (K5.out).mono ?_
                rintro e w5 ⟨rfl, b5⟩
                have HT5 := Lib.hid (HT3.out.below b5)
                have HX5 := Lib.hid (HX3.out.below b5 HX3.out.lt)
                have HB5 := Lib.hid (HB3.out.trans (b5.mono HB3.out.size))
                have hs5 := HX5.out.lt
                clear b5 y0 y1 y2 y3 y4 y5 y6 y7 y8 y9 y10 HT3 HX3 HB3
                go_wp2_with (first | (at_builtin; refine app_int_at rfl (.tmp 68) (.tmp 70) rfl _ I (P : Int) _ L rfl HT5.out.a HT5.out.b HT5.out.c rfl hs5 (by rw [HLIk.out]; omega) ?_; intro v6 w6 hT6 b6; have HX6 := Lib.hid (HX5.out.below b6 (Nat.lt_succ_self _)); have HB6 := Lib.hid (HB5.out.trans (b6.mono (Nat.le_succ _))); have hs6 := HX6.out.lt; have c1 := (own_atI hT6.b).cell (k := P) (by rw [HM.out]; omega); have f1 := (own_atI hT6.b).free P))
                rw [HS1k.out] at hT6
                have hT7 := hT6.put P m
                rw [S2.out] at hT7
                exact ⟨⟨k + 1, _, _, rfl, rfl, by omega, by go_num, by rw [HC1.out, ← HKSk.out], Lib.hid (by rw [HI'.out, HL'.out]; exact hT7), Lib.hid (HX6.out.off n2 _), Lib.hid (HB6.out.setCell (p := ⟨g, P, none⟩) (by show w.heap.size ≤ g; omega) _)⟩, by simp [intOf]; omega⟩
        · obtain rfl : k = t := by omega
          go_wp2
          go_ret3
          exact HTw.out.gives HBw.out
end Go.Proofs.Ytmfgegebnjpanaa
