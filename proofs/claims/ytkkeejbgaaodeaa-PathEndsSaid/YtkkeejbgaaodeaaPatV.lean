import Derived.Test.YtkkeejbgaaodeaaPatQ

/-! Layer 12's reference: Ends, Weight. -/
namespace Go.Proofs.Ytkkeejbgaaodeaa
open Go.RowKit
set_option linter.unusedVariables false
set_option linter.unusedSimpArgs false

def mmE (p : Int × Int) (v : Int) : Int × Int := (min p.1 v, max p.2 v)
theorem ends_fold (N : List TN) : ∀ (l : List (Nat × Nat)) (p : Int × Int), l.foldl (enE N) p = ((l.filter (fun x => decide ((N.getD x.1 tn0).lf = 0))).map (fun x => lenP x.2 (N.getD x.1 tn0).sz)).foldl mmE p
  | [], p => rfl
  | x :: l, p => by
    rw [List.foldl_cons]
    by_cases h : (N.getD x.1 tn0).lf = 0
    · rw [List.filter_cons_of_pos (by simpa using h), List.map_cons, List.foldl_cons, ← ends_fold N l]
      unfold enE mmE
      rw [if_pos h]
    · rw [List.filter_cons_of_neg (by simpa using h), ← ends_fold N l]
      unfold enE
      rw [if_neg h]
theorem wt_fold (N : List TN) : ∀ l : List (Nat × Nat), wtS N l = ((l.filter (fun x => decide ((N.getD x.1 tn0).lf = 0))).map (fun x => lenP x.2 (N.getD x.1 tn0).sz * (N.getD x.1 tn0).sz)).sum
  | [] => rfl
  | x :: l => by
    have e : wtS N (x :: l) = wtE N x + wtS N l := by simp [wtS]
    rw [e, wt_fold N l]
    unfold wtE
    by_cases h : (N.getD x.1 tn0).lf = 0
    · rw [if_pos h, List.filter_cons_of_pos (by simpa using h), List.map_cons, List.sum_cons]
    · rw [if_neg h, List.filter_cons_of_neg (by simpa using h)]
      omega
theorem has_leaf {N : List TN} {dm : Int} {i e d : Nat} (h : Sub N dm i e d) : ∀ f dep, d < f → ∃ x ∈ seqT N f i dep, (N.getD x.1 tn0).lf = 0 := by
  induction h with
  | @leaf i hi hl =>
    intro f dep hf
    obtain ⟨f, rfl⟩ : ∃ k, f = k + 1 := ⟨f - 1, by omega⟩
    exact ⟨(i, dep), seqT_head .., hl.1⟩
  | @inner i m e d1 d2 hi hl hr hc h1 h2 hs ih1 ih2 =>
    intro f dep hf
    obtain ⟨f, rfl⟩ : ∃ k, f = k + 1 := ⟨f - 1, by omega⟩
    obtain ⟨x, hx, hl'⟩ := ih1 f (dep + 1) (by omega)
    refine ⟨x, ?_, hl'⟩
    rw [seqT_inner (by omega), hl, hr, show ((i : Int) + 1).toNat = i + 1 from by omega, Int.toNat_natCast]
    exact List.mem_cons_of_mem _ (List.mem_append_left _ hx)
theorem levL_pos {N : List TN} {dm : Int} (hT : isT N dm = true) : 0 < (levL N dm).length := by
  obtain ⟨_, _, _, d0, s0, _⟩ := isT_iff.1 hT
  have hd := s0.deep
  obtain ⟨x, hx, hl⟩ := has_leaf s0 (N.length + 1) 0 (by omega)
  refine List.length_pos_of_mem (a := x) ?_
  unfold levL
  rw [List.mem_filter, allT_yes hT]
  exact ⟨hx, by simpa using hl⟩
theorem lnL_bd {N : List TN} {dm : Int} (hT : isT N dm = true) {v : Int} (hv : v ∈ lnL N dm) : 0 ≤ v ∧ v ≤ 274877906944 := by
  unfold lnL at hv
  obtain ⟨x, hx, rfl⟩ := List.mem_map.1 hv
  obtain ⟨_, _, h3, _, h5, h6⟩ := levL_at hT hx
  exact lenP_small ⟨by omega, by omega⟩ ⟨h5, h6⟩
theorem lnL_len (N : List TN) (dm : Int) : (lnL N dm).length = (levL N dm).length := by unfold lnL; simp
theorem getD_memZ {l : List Int} {k : Nat} (h : k < l.length) : l.getD k 0 ∈ l := by
  rw [List.getD_eq_getElem?_getD, List.getElem?_eq_getElem h]
  exact List.getElem_mem h
theorem ends_eq {N : List TN} {dm : Int} (hT : isT N dm = true) : (lnL N dm).foldl mmE ((lnL N dm).getD 0 0, (lnL N dm).getD 0 0) = enS N (allT N dm) := by
  have h0 : 0 < (lnL N dm).length := by rw [lnL_len]; exact levL_pos hT
  have e : enS N (allT N dm) = (lnL N dm).foldl mmE (274877906944, 0) := by
    unfold enS lnL levL
    rw [ends_fold]
  rw [e]
  have hb := lnL_bd hT (getD_memZ h0)
  generalize lnL N dm = l at *
  cases l with
  | nil => simp at h0
  | cons a l =>
    have ha : (a :: l).getD 0 0 = a := rfl
    rw [ha] at hb ⊢
    rw [List.foldl_cons, List.foldl_cons]
    refine congrArg (fun p => l.foldl mmE p) ?_
    unfold mmE
    refine Prod.ext ?_ ?_
    · show min a a = min 274877906944 a; omega
    · show max a a = max 0 a; omega
theorem fold_take (l : List Int) (p : Int × Int) {k : Nat} (h : k < l.length) : (l.take (k + 1)).foldl mmE p = mmE ((l.take k).foldl mmE p) (l.getD k 0) := by
  rw [List.take_succ_eq_append_getElem h, List.foldl_append, List.getD_eq_getElem?_getD, List.getElem?_eq_getElem h]
  rfl
set_option maxRecDepth 100000 in
set_option maxHeartbeats 8000000 in
theorem ref_Ends12 (N : List TN) (dim : Int) (A : Option Addr) (c B : Nat) (w : World) (hl : N.length ≤ 100000) (hA : LiesT w B A N) (hB : B ≤ w.heap.size) :
    Calls Try.prog 34 #[.agg #[.int .i64 dim, .slice A N.length c]] w fun e w' => e = .returned (.tuple (if isT N dim = true then #[.int .i64 (enS N (allT N dim)).1, .int .i64 (enS N (allT N dim)).2, .int .i64 0] else #[.int .i64 0, .int .i64 0, .int .i64 100])) ∧ Below w.heap.size w w' := by
  have HX := Lib.hid ((Kpc.start w).alloc #[.int .i64 dim, .slice A N.length c] 24)
  obtain ⟨y0, y1⟩ := box_cut HX.out.head
  have KL := Lib.hid (ref_lengths N dim A c B _ hl (hA.below (HX.out.2.1.mono hB)) (Nat.le_trans hB HX.out.2.1.size))
  unfold GivesI at KL
  cases h1 : isT N dim with
  | false =>
    rw [lnL_no h1] at KL
    clear hA h1
    simp only [List.length_nil, Bool.false_eq_true, if_false] at KL ⊢
    generalize N.length = M at *
    go_enter Try.func34, Try.ntmps34
    go_wp2_with fail
    refine KL.out.mono ?_
    rintro e w1 ⟨A1, c1, rfl, -, -, -, b1⟩
    have J := Lib.hid (HX.out.below b1)
    go_wp2
    go_ret3
    exact ⟨by simp, J.out.2.1⟩
  | true =>
    have h0 : 0 < (lnL N dim).length := by rw [lnL_len]; exact levL_pos h1
    have HE := Lib.hid (ends_eq h1)
    have HF := Lib.hid (fun p k hk => fold_take (lnL N dim) p (k := k) hk)
    have hle := levL_len h1
    have hlen := isT_len h1
    rw [← lnL_len] at hle
    have hn : ((lnL N dim).length : Int) ≤ 127 := by omega
    generalize enS N (allT N dim) = Z at *
    clear hA h1
    simp only [if_true] at KL ⊢
    generalize lnL N dim = ln at *
    obtain ⟨n, hnn⟩ : ∃ n, n = ln.length := ⟨_, rfl⟩
    have HN := Lib.hid hnn
    rw [← hnn] at KL h0 hn
    clear hnn hle hlen
    have hn0 : (0 : Int) < (n : Int) := by omega
    have hn1 : ((n : Int) == 0) = false := by rw [beq_eq_false_iff_ne]; omega
    generalize N.length = M at *
    go_enter Try.func34, Try.ntmps34
    go_wp2_with fail
    refine KL.out.mono ?_
    rintro e w1 ⟨A1, c1, rfl, -, -, l1, b1⟩
    have HB1 := Lib.hid (HX.out.below b1).2.1
    obtain ⟨a1, eA1, ha1, hc1⟩ := l1 (by have := HN.out; omega)
    subst eA1
    have HC : Hid (∀ W, Below w1.heap.size w1 W → ∀ k, k < n → W.cell? (a1.add k) = some (.int .i64 (ln.getD k 0))) := fun W h k hk => by
      rw [← hc1 k (by have := HN.out; omega)]
      exact h.cell (by rw [add_block]; exact ha1)
    have c0 : w1.cell? a1 = some (.int .i64 (ln.getD 0 0)) := by
      have := HC.out w1 (Below.refl _ _) 0 h0
      have e2 : a1.add 0 = a1 := by cases a1; simp [Addr.add]
      rw [e2] at this
      exact this
    clear b1 y0 y1 l1 hc1
    obtain ⟨P, hP⟩ : ∃ P : Nat → Int × Int, P = fun k => (ln.take k).foldl mmE (ln.getD 0 0, ln.getD 0 0) := ⟨_, rfl⟩
    have HP0 : Hid (P 0 = (ln.getD 0 0, ln.getD 0 0)) := by show _ = _; rw [hP]; rfl
    have HPS : Hid (∀ k, k < n → P (k + 1) = mmE (P k) (ln.getD k 0)) := fun k hk => by rw [hP]; exact HF.out _ k (by have := HN.out; omega)
    have HPN : Hid (P n = Z) := by
      show _ = _
      rw [hP, ← HE.out, HN.out]
      simp only [List.take_length]
    clear hP HE HF
    generalize ln.getD 0 0 = l0 at *
    go_wp2
    go_quiet (fail)
    have HW0 := Lib.hid (fun m => below_drewN2 (Below.refl w1.heap.size w1) m)
    go_wp2
    go_loopw [6, 7, 8] (fun lo hi iv wr => ∃ k : Nat, k ≤ n ∧ iv = .int .i64 k ∧ lo = .int .i64 (P k).1 ∧ hi = .int .i64 (P k).2 ∧ Hid (Below w1.heap.size w1 wr)) (fun _ _ iv _ => n - (intOf iv).toNat)
    case atStart => exact ⟨0, by omega, rfl, by rw [HP0.out], by rw [HP0.out], HW0.out _⟩
    case round =>
      obtain ⟨k, hk, rfl, rfl, rfl, HB⟩ := hrel
      by_cases hlt : k < n
      · have hlg : (k : Int) < (n : Int) := by omega
        have c1 := HC.out _ HB.out k hlt
        have hs := HPS.out k hlt
        unfold mmE at hs
        have HS1 : Hid ((P (k + 1)).1 = min (P k).1 (ln.getD k 0)) := by show _ = _; rw [hs]
        have HS2 : Hid ((P (k + 1)).2 = max (P k).2 (ln.getD k 0)) := by show _ = _; rw [hs]
        clear hs
        generalize (P k).1 = lo at *
        generalize (P k).2 = hi at *
        generalize ln.getD k 0 = v at *
        by_cases q1 : v < lo
        · by_cases q2 : hi < v
          · go_wp2
            exact ⟨⟨k + 1, by omega, by go_num, by rw [HS1.out, show min lo v = v from by omega], by rw [HS2.out, show max hi v = v from by omega], HB.out⟩, by first | (simp [intOf]; done) | (simp [intOf]; omega)⟩
          · go_wp2
            exact ⟨⟨k + 1, by omega, by go_num, by rw [HS1.out, show min lo v = v from by omega], by rw [HS2.out, show max hi v = hi from by omega], HB.out⟩, by first | (simp [intOf]; done) | (simp [intOf]; omega)⟩
        · by_cases q2 : hi < v
          · go_wp2
            exact ⟨⟨k + 1, by omega, by go_num, by rw [HS1.out, show min lo v = lo from by omega], by rw [HS2.out, show max hi v = v from by omega], HB.out⟩, by first | (simp [intOf]; done) | (simp [intOf]; omega)⟩
          · go_wp2
            exact ⟨⟨k + 1, by omega, by go_num, by rw [HS1.out, show min lo v = lo from by omega], by rw [HS2.out, show max hi v = hi from by omega], HB.out⟩, by first | (simp [intOf]; done) | (simp [intOf]; omega)⟩
      · obtain rfl : k = n := by omega
        rw [HPN.out]
        go_wp2
        go_ret3
        exact ⟨by simp, HB1.out.trans (HB.out.mono HB1.out.size)⟩
/-- what the first k leaves weigh -/
def wtK (N : List TN) (LL : List (Nat × Nat)) (k : Nat) : Int := ((LL.take k).map (fun x => lenP x.2 (N.getD x.1 tn0).sz * (N.getD x.1 tn0).sz)).sum
theorem wtK_succ (N : List TN) (LL : List (Nat × Nat)) {k : Nat} (h : k < LL.length) : wtK N LL (k + 1) = wtK N LL k + lenP (LL.getD k (0, 0)).2 (N.getD (LL.getD k (0, 0)).1 tn0).sz * (N.getD (LL.getD k (0, 0)).1 tn0).sz := by
  unfold wtK
  rw [List.take_succ_eq_append_getElem h, List.getD_eq_getElem?_getD, List.getElem?_eq_getElem h]
  simp only [List.map_append, List.map_cons, List.map_nil, List.sum_append, List.sum_cons, List.sum_nil, Option.getD_some, Int.add_zero]
theorem prod_bd {a b : Int} (ha : 0 ≤ a ∧ a ≤ 274877906944) (hb : 1 ≤ b ∧ b ≤ 64) : 0 ≤ a * b ∧ a * b ≤ 274877906944 * 64 :=
  ⟨Int.mul_nonneg ha.1 (by omega), Int.mul_le_mul ha.2 hb.2 (by omega) (by omega)⟩
theorem wtK_bd {N : List TN} {dm : Int} (hT : isT N dm = true) : ∀ k, k ≤ (levL N dm).length → 0 ≤ wtK N (levL N dm) k ∧ wtK N (levL N dm) k ≤ k * (274877906944 * 64)
  | 0, _ => by simp [wtK]
  | k + 1, h => by
    have ih := wtK_bd hT k (by omega)
    have hm : (levL N dm).getD k (0, 0) ∈ levL N dm := by
      rw [List.getD_eq_getElem?_getD, List.getElem?_eq_getElem (by omega)]
      exact List.getElem_mem _
    obtain ⟨_, _, h3, _, h5, h6⟩ := levL_at hT hm
    have hp := prod_bd (lenP_small (dep := (((levL N dm).getD k (0, 0)).2 : Int)) ⟨by omega, by omega⟩ ⟨h5, h6⟩) ⟨h5, h6⟩
    rw [wtK_succ N _ (by omega)]
    omega
set_option maxRecDepth 100000 in
set_option maxHeartbeats 8000000 in
theorem ref_Weight12 (N : List TN) (dim : Int) (A : Option Addr) (c B : Nat) (w : World) (hl : N.length ≤ 100000) (hA : LiesT w B A N) (hB : B ≤ w.heap.size) :
    Calls Try.prog 36 #[.agg #[.int .i64 dim, .slice A N.length c]] w fun e w' => e = .returned (.tuple #[.int .i64 (wtS N (allT N dim)), .int .i64 (if isT N dim = true then 0 else 100)]) ∧ Below w.heap.size w w' := by
  have HX := Lib.hid ((Kpc.start w).alloc #[.int .i64 dim, .slice A N.length c] 24)
  obtain ⟨y0, y1⟩ := box_cut HX.out.head
  have KL := Lib.hid (ref_lengths N dim A c B _ hl (hA.below (HX.out.2.1.mono hB)) (Nat.le_trans hB HX.out.2.1.size))
  have KV := Lib.hid (fun W (h : Below w.heap.size w W) => ref_leaves N dim A c B W hl (hA.below (h.mono hB)) (Nat.le_trans hB h.size))
  unfold GivesI at KL KV
  cases h1 : isT N dim with
  | false =>
    rw [lnL_no h1] at KL
    have hv : wtS N (allT N dim) = 0 := by rw [allT_no h1]; rfl
    rw [hv]
    clear hA h1 hv KV
    simp only [List.length_nil, Bool.false_eq_true, if_false] at KL ⊢
    generalize N.length = M at *
    go_enter Try.func36, Try.ntmps36
    go_wp2_with fail
    refine KL.out.mono ?_
    rintro e w1 ⟨A1, c1, rfl, -, -, -, b1⟩
    have J := Lib.hid (HX.out.below b1)
    go_wp2
    go_ret2
    exact ⟨by simp, J.out.2.1⟩
  | true =>
    have h0 := levL_pos h1
    have hle := levL_len h1
    have hlen := isT_len h1
    have HWT : Hid (wtK N (levL N dim) (levL N dim).length = wtS N (allT N dim)) := by
      show _ = _
      unfold wtK
      rw [List.take_length, wt_fold]
      rfl
    have HWB := Lib.hid (fun k hk => wtK_bd h1 k hk)
    have HWS := Lib.hid (fun k hk => wtK_succ N (levL N dim) (k := k) hk)
    have HW0 : Hid (wtK N (levL N dim) 0 = 0) := rfl
    have HMEM := Lib.hid (fun x hx => levL_at (N := N) (dm := dim) h1 (x := x) hx)
    obtain ⟨ad, e0, hab, -, -⟩ := hA.at (k := 0) (by omega)
    subst e0
    have HC : Hid (∀ W (h : Below w.heap.size w W) k (hk : k < N.length), W.cell? ⟨(ad.add (k * 5)).block, (ad.add (k * 5)).off + 4, none⟩ = some (.int .i64 (N.getD k tn0).sz)) := fun W h k hk => by
      obtain ⟨ad', e, _, ⟨hc0, hc1, hc2, hc3, hc4⟩, _⟩ := (hA.below (h.mono hB)).at hk
      cases e; exact hc4
    have hlv : (levV N dim).length = (levL N dim).length := by rw [lev_eq h1]; simp
    have HLV : Hid (∀ k, k < (levL N dim).length → (levV N dim).getD k 0 = (((levL N dim).getD k (0, 0)).1 : Int)) := fun k hk => by
      rw [lev_eq h1, List.getD_eq_getElem?_getD, List.getElem?_map, List.getElem?_eq_getElem hk, List.getD_eq_getElem?_getD, List.getElem?_eq_getElem hk]
      rfl
    have HLN : Hid (∀ k, k < (levL N dim).length → (lnL N dim).getD k 0 = lenP (((levL N dim).getD k (0, 0)).2 : Int) (N.getD ((levL N dim).getD k (0, 0)).1 tn0).sz) := fun k hk => by
      unfold lnL
      rw [List.getD_eq_getElem?_getD, List.getElem?_map, List.getElem?_eq_getElem hk, List.getD_eq_getElem?_getD, List.getElem?_eq_getElem hk]
      rfl
    have HGM : Hid (∀ k, k < (levL N dim).length → (levL N dim).getD k (0, 0) ∈ levL N dim) := fun k hk => by
      rw [List.getD_eq_getElem?_getD, List.getElem?_eq_getElem hk]
      exact List.getElem_mem hk
    have hll := lnL_len N dim
    simp only [if_true]
    generalize wtS N (allT N dim) = WS at *
    clear hA h1
    generalize lnL N dim = ln at *
    generalize levV N dim = LV at *
    generalize levL N dim = LL at *
    generalize wtK N LL = wk at *
    obtain ⟨n, hn⟩ : ∃ n, n = LL.length := ⟨_, rfl⟩
    have HN := Lib.hid hn
    have hllZ := Lib.hid hll
    have hlvZ := Lib.hid hlv
    rw [hll, ← hn] at KL
    rw [hlv, ← hn] at KV
    rw [← hn] at h0 hle HWT
    clear hn hll hlv
    have hn0 : (0 : Int) < (n : Int) := by omega
    have hn1 : ((n : Int) == 0) = false := by rw [beq_eq_false_iff_ne]; omega
    have hn2 : (n : Int) ≤ 127 := by omega
    generalize hM : N.length = M at *
    clear hM
    go_enter Try.func36, Try.ntmps36
    go_wp2_with fail
    refine KL.out.mono ?_
    rintro e w1 ⟨A1, c1, rfl, -, -, l1, b1⟩
    have J1 := Lib.hid (HX.out.below b1)
    have HL1 := Lib.hid l1
    clear b1 y0 y1 l1
    obtain ⟨y0, y1⟩ := box_cut J1.out.head
    go_wp2_with fail
    refine (KV.out _ J1.out.2.1).mono ?_
    rintro e w2 ⟨A2, c2, rfl, -, -, l2, b2⟩
    have J2 := Lib.hid (J1.out.below b2)
    obtain ⟨a1, eA1, ha1, hc1⟩ := ((HL1.out.below b2).mono b2.size) (by have := hllZ.out; have := HN.out; omega)
    obtain ⟨a2, eA2, ha2, hc2⟩ := l2 (by have := hlvZ.out; have := HN.out; omega)
    subst eA1
    subst eA2
    clear b2 y0 y1 l2 HL1
    have HB2 : Hid (Below w.heap.size w w2) := J2.out.2.1
    have hbig : w.heap.size ≤ w2.heap.size := HB2.out.size
    have HTB : Hid (∀ W, Below w2.heap.size w2 W → W.cell? ⟨w.heap.size, 0, none⟩ = some (.int .i64 dim) ∧ W.cell? ⟨w.heap.size, 1, none⟩ = some (.slice (some ad) M c)) := fun W h => box_cut (J2.out.head.below h J2.out.head.lt)
    have HU1 : Hid (∀ W, Below w2.heap.size w2 W → ∀ k, k < n → W.cell? (a1.add k) = some (.int .i64 (lenP ((LL.getD k (0, 0)).2 : Int) (N.getD (LL.getD k (0, 0)).1 tn0).sz))) := fun W h k hk => by
      rw [← HLN.out k (by have := HN.out; omega), ← hc1 k (by have := hllZ.out; have := HN.out; omega)]
      exact h.cell (by rw [add_block]; exact ha1)
    have HU2 : Hid (∀ W, Below w2.heap.size w2 W → ∀ k, k < n → W.cell? (a2.add k) = some (.int .i64 (((LL.getD k (0, 0)).1 : Nat) : Int))) := fun W h k hk => by
      rw [← HLV.out k (by have := HN.out; omega), ← hc2 k (by have := hlvZ.out; have := HN.out; omega)]
      exact h.cell (by rw [add_block]; exact ha2)
    clear hc1 hc2 HLV HLN
    go_wp2
    go_loopw [6, 7] (fun s iv wr => ∃ k : Nat, k ≤ n ∧ iv = .int .i64 k ∧ s = .int .i64 (wk k) ∧ Hid (Below w2.heap.size w2 wr)) (fun _ iv _ => n - (intOf iv).toNat)
    case atStart => exact ⟨0, by omega, rfl, by rw [HW0.out], Below.refl _ _⟩
    case round =>
      obtain ⟨k, hk, rfl, rfl, HB⟩ := hrel
      by_cases hlt : k < n
      · have hlg : (k : Int) < (n : Int) := by omega
        have hkL : k < LL.length := by have := HN.out; omega
        obtain ⟨m1, m2, m3, m4, m5, m6⟩ := HMEM.out _ (HGM.out k hkL)
        have tb := HTB.out _ HB.out
        have t1 := tb.2
        have u1 := HU1.out _ HB.out k hlt
        have u2 := HU2.out _ HB.out k hlt
        have u3 := HC.out _ (HB2.out.trans (HB.out.mono hbig)) _ m1
        have hs := HWB.out k (by omega)
        have HST := Lib.hid (HWS.out k hkL)
        have hbd := lenP_small (dep := ((LL.getD k (0, 0)).2 : Int)) ⟨by omega, by omega⟩ ⟨m5, m6⟩
        have hpb := prod_bd hbd ⟨m5, m6⟩
        clear tb m2 m3 m4 hkL
        generalize lenP ((LL.getD k (0, 0)).2 : Int) (N.getD (LL.getD k (0, 0)).1 tn0).sz = v at *
        generalize (LL.getD k (0, 0)).1 = j at *
        generalize (N.getD j tn0).sz = sz at *
        have hj1 : (j : Int) < (M : Int) := by omega
        generalize hS : wk k = s at *
        have hw : wrap64 (v * sz) = v * sz := by unfold wrap64; omega
        obtain ⟨p, hp⟩ : ∃ p, p = v * sz := ⟨_, rfl⟩
        rw [← hp] at hpb
        have hw2 : wrap64 (v * sz) = p := by rw [hp]; exact hw
        have HP := Lib.hid hp
        obtain ⟨hs1, hs2⟩ := hs
        obtain ⟨hp1, hp2⟩ := hpb
        have hs3 : s ≤ 127 * (274877906944 * 64) := by omega
        clear hS hw hs2 hp m1 m5 m6 hbd
        have HBd := Lib.hid (fun m => below_drewN2 HB.out m)
        go_wp2
        go_quiet (fail)
        go_wp2
        exact ⟨⟨k + 1, by omega, by go_num, by rw [HST.out, ← HP.out], HBd.out _⟩, by first | (simp [intOf]; done) | (simp [intOf]; omega)⟩
      · obtain rfl : k = n := by omega
        rw [HWT.out]
        go_wp2
        go_ret2
        exact ⟨by simp, HB2.out.trans (HB.out.mono hbig)⟩
end Go.Proofs.Ytkkeejbgaaodeaa
