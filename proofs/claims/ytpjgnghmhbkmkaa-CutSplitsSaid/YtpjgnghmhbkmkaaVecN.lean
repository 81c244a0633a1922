import Derived.Test.YtpjgnghmhbkmkaaVecK
import Derived.Maps.AppendAt

/-! The reference of layer 8: Box. -/
namespace Go.Proofs.Ytpjgnghmhbkmkaa
open Go.RowKit
set_option linter.unusedVariables false
set_option linter.unusedSimpArgs false

/-- two lists of the call's own, each in its own block -/
def Two (B : Nat) (w : World) (v1 : Value) (l1 : List Int) (v2 : Value) (l2 : List Int) : Prop :=
  w.ownsRow B 3 1 v1 l1.length (litI l1) ∧ w.ownsRow B 3 1 v2 l2.length (litI l2) ∧ (v1.ownBlock = none ∨ v1.ownBlock ≠ v2.ownBlock)
theorem Two.a {B : Nat} {w : World} {v1 v2 : Value} {l1 l2 : List Int} (h : Two B w v1 l1 v2 l2) : w.ownsRow B 3 1 v1 l1.length (litI l1) := h.1
theorem Two.b {B : Nat} {w : World} {v1 v2 : Value} {l1 l2 : List Int} (h : Two B w v1 l1 v2 l2) : w.ownsRow B 3 1 v2 l2.length (litI l2) := h.2.1
theorem Two.c {B : Nat} {w : World} {v1 v2 : Value} {l1 l2 : List Int} (h : Two B w v1 l1 v2 l2) : v1.ownBlock = none ∨ v1.ownBlock ≠ v2.ownBlock := h.2.2
theorem Two.drewN {B : Nat} {w : World} {v1 v2 : Value} {l1 l2 : List Int} (h : Two B w v1 l1 v2 l2) (n : Nat) : Two B (w.drewN n) v1 l1 v2 l2 := ⟨ownI_drewN h.1 n, ownI_drewN h.2.1 n, h.2.2⟩
theorem own_ltI {w : World} {B : Nat} {v : Value} {n : Nat} {xs : List Value} (h : w.ownsRow B 3 1 v n xs) {k : Nat} (hk : v.ownBlock = some k) : k < w.heap.size := by
  rcases h.2 with ⟨rfl, _⟩ | ⟨g, cap, cur, rfl, _, hh, _⟩
  · simp [Value.ownBlock] at hk
  · simp only [Value.ownBlock, Option.some.injEq] at hk
    subst hk
    exact (Array.getElem?_eq_some_iff.1 hh).1
/-- one number more onto a list of the call's own, beside another one -/
theorem app_int_at {B : Nat} {wr : World} {ops : Array Oper} {rest : List Oper} {o : Oper} {a : Act} {Q : Exit → Act → World → Prop} (hgd : o.guard = none) (s x : Operand)
    (ho : o.op = .call { callee := .builtin .append, args := #[s, x], argTypes := #[24, 24] })
    (v : Value) (l : List Int) (d : Int) (u : Value) (m : List Int) (hs : a.eval s = v) (hown : wr.ownsRow B 3 1 v l.length (litI l)) (hown2 : wr.ownsRow B 3 1 u m.length (litI m)) (hne : v.ownBlock = none ∨ v.ownBlock ≠ u.ownBlock) (hx : a.eval x = .slice (some ⟨wr.heap.size, 0, none⟩) 1 1)
    (hB : B ≤ wr.heap.size) (hn : l.length + 1 ≤ 1000000000)
    (h : ∀ v' w', Two B w' v' (l ++ [d]) u m → Below B wr w' → wpList Try.prog ops Q rest (a.put o.dst v') w') :
    wpList Try.prog ops Q (o :: rest) a (wr.alloc (.cells #[.int .i64 d] 3)) := by
  obtain ⟨i0, hi, hz0, hz1, hz2⟩ := info_parts infoI
  refine wpList_append_own_at _ hgd s x 24 ho B 3 i0 (.int .i64 0) 1 8 Try.underlying24 hi hz0 hz1 hz2 rfl (by decide) v l.length (litI l) hs (hown.alloc _) ⟨wr.heap.size, 0, none⟩ 1 1 [.int .i64 d] hx rfl (cell_one_new _ _ _) ?_ ?_ ?_ ?_ ?_
  · intro u hu; rw [List.mem_singleton.1 hu]; rfl
  · unfold maxLen; omega
  · omega
  · simp; omega
  · intro v' w' h1 h2 _ h4
    have hub : ∀ k, u.ownBlock = some k → k < wr.heap.size := fun k hk => own_ltI hown2 hk
    refine h v' w' ⟨?_, ?_, ?_⟩ ?_
    · rw [List.length_append, ← litI_snoc]; exact h1
    · refine (hown2.alloc (.cells #[.int .i64 d] 3)).kept h2 ?_
      rcases hown2.2 with ⟨rfl, _⟩ | ⟨g, cap, cur, rfl, _⟩
      · exact .inl rfl
      · right
        rcases hne with e | e
        · rw [e]; simp [Value.ownBlock]
        · exact fun e2 => e e2.symm
    · rcases h4 with e | e
      · rw [e]; exact hne
      · right
        rw [e]
        intro e2
        have := hub _ e2.symm
        simp at this
        omega
    · refine ((Below.refl _ _).alloc hB _).grown h2 (by simp; omega) fun k hk => ?_
      rcases hown.2 with ⟨rfl, _⟩ | ⟨g, cap, cur, rfl, hg, _⟩
      · simp [Value.ownBlock] at hk
      · simp only [Value.ownBlock, Option.some.injEq] at hk; omega
theorem Two.swap {B : Nat} {w : World} {v1 v2 : Value} {l1 l2 : List Int} (h : Two B w v1 l1 v2 l2) : Two B w v2 l2 v1 l1 := by
  refine ⟨h.2.1, h.1, ?_⟩
  rcases h.2.2 with e | e
  · by_cases g : v2.ownBlock = none
    · exact .inl g
    · right; rw [e]; exact g
  · right; exact fun e2 => e e2.symm
def colR (R : List Row) (j : Nat) : List Int := R.map fun r => r.l.getD j 0
theorem colR_get (R : List Row) (j : Nat) {i : Nat} (hi : i < R.length) : (colR R j).getD i 0 = (R.getD i row0).l.getD j 0 := by
  unfold colR
  rw [List.getD_eq_getElem?_getD, List.getElem?_map, List.getElem?_eq_getElem hi]
  simp [List.getD, hi]
theorem colL_all {R : List Row} (h : 0 < R.length) (j : Nat) : loL ((R.getD 0 row0).l.getD j 0) (colR R j) = colL R j := by
  cases R with
  | nil => simp at h
  | cons r R => unfold colL colR loL; simp
theorem colH_all {R : List Row} (h : 0 < R.length) (j : Nat) : hiL ((R.getD 0 row0).l.getD j 0) (colR R j) = colH R j := by
  cases R with
  | nil => simp at h
  | cons r R => unfold colH colR hiL; simp
theorem range_snoc (F : Nat → Int) (k : Nat) : (List.range k).map F ++ [F k] = (List.range (k + 1)).map F := by rw [List.range_succ, List.map_append]; rfl
set_option maxRecDepth 100000 in
set_option maxHeartbeats 4000000 in
theorem ref_Box (A : Option Addr) (R : List Row) (c : Nat) (d : Int) (w : World) (hA : LiesR w w.heap.size A R) (hl : (R.length : Int) ≤ 9223372036854775807) :
    Calls Try.prog 78 #[.slice A R.length c, .int .i64 d] w (GivesBox R d w) := by
  have K1 := Lib.hid (ref_All A R c w.heap.size d w hA hl)
  by_cases hE : boxE R d = true
  · have hE2 := hE
    unfold boxE at hE2
    rw [hE2] at K1
    rw [Bool.and_eq_true, decide_eq_true_eq] at hE2
    obtain ⟨hall, h0⟩ := hE2
    have hLo : boxLo R d = (List.range d.toNat).map (colL R) := by unfold boxLo; rw [if_pos hE]
    have hHi : boxHi R d = (List.range d.toNat).map (colH R) := by unfold boxHi; rw [if_pos hE]
    have hCo : boxC R d = 0 := by unfold boxC; rw [if_pos hE]
    have hG : Hid (∀ e w', GivesBox R d w e w' ↔ ∃ A c A2 c2, e = .returned (.tuple #[.slice A ((List.range d.toNat).map (colL R)).length c, .slice A2 ((List.range d.toNat).map (colH R)).length c2, .int .i64 0]) ∧ ((List.range d.toNat).map (colL R)).length ≤ c ∧ ((List.range d.toNat).map (colH R)).length ≤ c2 ∧ Lies w' w'.heap.size A ((List.range d.toNat).map (colL R)) ∧ Lies w' w'.heap.size A2 ((List.range d.toNat).map (colH R)) ∧ Below w.heap.size w w') := fun e w' => by
      unfold GivesBox; rw [hLo, hHi, hCo]
    have hv := allV_iff.1 hall
    obtain ⟨ad, rfl, hadb, hcell, hlies⟩ := hA.at (k := 0) h0
    have hcell' : w.cell? ad = some (.slice (R.getD 0 row0).a (R.getD 0 row0).l.length (R.getD 0 row0).c) := by rw [add_zero'] at hcell; exact hcell
    obtain ⟨v1, v2, v3, _⟩ := isV_iff.1 (hv 0 h0)
    obtain ⟨D, hD⟩ : ∃ D : Nat, D = (R.getD 0 row0).l.length := ⟨_, rfl⟩
    obtain rfl : d = (D : Int) := by rw [hD]; exact v3.symm
    have hDN : Hid (((D : Int)).toNat = D) := by show _ = _; omega
    have HAA := Lib.hid (fun W (h : Below w.heap.size w W) => hA.below h)
    have HLL : Hid (∀ j, j < R.length → (R.getD j row0).l.length = D) := fun j hj => by
      have h2 := (isV_iff.1 (hv j hj)).2.2.1
      omega
    have HCL := Lib.hid (fun j => colL_all h0 j)
    have HCH := Lib.hid (fun j => colH_all h0 j)
    have HCG := Lib.hid (fun j i (hi : i < R.length) => colR_get R j hi)
    have HCN : Hid (∀ j, (colR R j).length = R.length) := fun j => by unfold colR; simp
    have HC0 : Hid (∀ W, Below w.heap.size w W → W.cell? ad = some (.slice (R.getD 0 row0).a D (R.getD 0 row0).c) ∧ Lies W w.heap.size (R.getD 0 row0).a (R.getD 0 row0).l) := fun W h => ⟨by rw [hD]; exact (h.cell hadb).trans hcell', hlies.below h⟩
    generalize (R.getD 0 row0).l = l0 at *
    generalize (R.getD 0 row0).a = a0 at *
    generalize (R.getD 0 row0).c = c0 at *
    have HD := Lib.hid hD
    generalize hM : R.length = M at *
    have HM := Lib.hid hM
    have g6 : (1 : Int) ≤ M := by omega
    have h0' : (0 : Int) < (M : Int) := by omega
    clear hA hlies hE hall hLo hHi hCo hv hD hM v3 hcell hcell'
    go_enter Try.func78, Try.ntmps78
    go_wp2_with fail
    refine K1.out.mono ?_
    rintro e w2 ⟨rfl, rfl⟩
    go_wp2
    go_loopw [7, 8, 9] (fun v7 v8 i wr => ∃ k : Nat, k ≤ D ∧ i = .int .i64 k ∧ Hid (Two w.heap.size wr v7 ((List.range k).map (colL R)) v8 ((List.range k).map (colH R))) ∧ Hid (Below w.heap.size w wr)) (fun _ _ i _ => D - (intOf i).toNat)
    case atStart => exact ⟨0, by omega, rfl, ⟨World.ownsRow_nil _ _ _ _, World.ownsRow_nil _ _ _ _, .inl rfl⟩, Below.refl _ _⟩
    case round =>
      obtain ⟨k, hk, rfl, HT, HB⟩ := hrel
      by_cases hlt : k < D
      · obtain ⟨hc0, hl0⟩ := HC0.out wr HB.out
        obtain ⟨ad0, rfl, hb0, hx0⟩ := hl0.at (k := k) (by have := HD.out; omega)
        have hc0' : wr.cell? (ad.add 0) = some (.slice (some ad0) D c0) := by rw [add_zero']; exact hc0
        have hji : (k : Int) < (D : Int) := by omega
        have HCLk := Lib.hid (HCL.out k)
        have HCHk := Lib.hid (HCH.out k)
        have HCGk := Lib.hid (HCG.out k)
        have HCNk := Lib.hid (HCN.out k)
        have HRL := Lib.hid (range_snoc (colL R) k)
        have HRH := Lib.hid (range_snoc (colH R) k)
        have HLLn : Hid (((List.range k).map (colL R)).length = k ∧ ((List.range k).map (colH R)).length = k) := by show _ ∧ _; simp
        generalize l0.getD k 0 = x at *
        generalize colR R k = C at *
        clear hl0
        go_wp2
        go_quiet (fail)
        go_wp2
        obtain ⟨wo, hwo⟩ : ∃ wo, wo = wr.drewN nq := ⟨_, rfl⟩
        rw [← hwo]
        have HBo : Hid (Below w.heap.size w wo) := by show Below _ _ _; rw [hwo]; exact below_drewN2 HB.out nq
        have HTo : Hid (Two w.heap.size wo u7 ((List.range k).map (colL R)) u8 ((List.range k).map (colH R))) := by show Two _ _ _ _ _ _; rw [hwo]; exact HT.out.drewN nq
        have HAo := Lib.hid (HAA.out wo HBo.out)
        clear hc0 hc0' hx0 hwo HT HB
        go_loop [10, 11, 12] (fun av bv iv => ∃ (i : Nat) (p q : Int), i ≤ M ∧ iv = .int .i64 i ∧ av = .int .i64 p ∧ bv = .int .i64 q ∧ Hid (p = loL x (C.take i)) ∧ Hid (q = hiL x (C.take i))) (fun _ _ iv => M - (intOf iv).toNat)
        case atStart => exact ⟨0, x, x, by omega, rfl, rfl, rfl, rfl, rfl⟩
        case round =>
          obtain ⟨i, p, q, hi, rfl, rfl, rfl, HP, HQ⟩ := hrel
          by_cases hlt2 : i < M
          · obtain ⟨adi, hadi, _, hci, hli⟩ := HAo.out.at (k := i) (by have := HM.out; omega)
            cases hadi
            have hlen := HLL.out i hlt2
            obtain ⟨adk, hadk, hbk, hxk⟩ := hli.at (k := k) (by omega)
            rw [← HCGk.out i (by have := HM.out; omega)] at hxk
            rw [hlen, hadk] at hci
            have HL := Lib.hid (loL_take x C (k := i) (by have := HCNk.out; omega))
            have HH := Lib.hid (hiL_take x C (k := i) (by have := HCNk.out; omega))
            generalize C.getD i 0 = z at *
            generalize (R.getD i row0).c = ci at *
            clear hli hlen hadk
            by_cases g1 : z < p <;> by_cases g2 : q < z
            all_goals
              go_wp2
              go_round
              case rel => exact ⟨i + 1, _, _, by omega, by go_num, rfl, rfl, (by show _ = _; rw [HL.out, ← HP.out]; omega), (by show _ = _; rw [HH.out, ← HQ.out]; omega)⟩
              case measure => simp [intOf]; omega
          · obtain rfl : i = M := by omega
            have HP2 : Hid (p = colL R k) := by
              show _ = _
              rw [HP.out, List.take_of_length_le (by have := HCNk.out; omega), HCLk.out]
            have HQ2 : Hid (q = colH R k) := by
              show _ = _
              rw [HQ.out, List.take_of_length_le (by have := HCNk.out; omega), HCHk.out]
            clear HP HQ HCLk HCHk
            generalize hLk : (List.range k).map (colL R) = Lk at *
            generalize hHk : (List.range k).map (colH R) = Hk at *
            have hb1 := HBo.out.size
            have hn1 : Hid (Lk.length + 1 ≤ 1000000000) := by have := HLLn.out.1; show _ ≤ _; omega
            have hn2 : Hid (Hk.length + 1 ≤ 1000000000) := by have := HLLn.out.2; show _ ≤ _; omega
            have HBS := Lib.hid hb1
            clear hLk hHk hb1
            go_wp2_with (first
              | (at_builtin; refine app_int_at rfl (.tmp 72) (.tmp 74) rfl _ Lk p _ Hk rfl HTo.out.a HTo.out.b HTo.out.c rfl HBS.out hn1.out ?_; intro v' w4 ht4 hb4; have HT4 := Lib.hid ht4.swap; clear ht4; have HBS4 := Lib.hid (Nat.le_trans HBS.out hb4.size))
              | (at_builtin; refine app_int_at rfl (.tmp 76) (.tmp 78) rfl _ Hk q _ (Lk ++ [p]) rfl HT4.out.a HT4.out.b HT4.out.c rfl HBS4.out hn2.out ?_; intro v'' w5 ht5 hb5; have HT5 := Lib.hid ht5.swap; clear ht5))
            refine ⟨⟨k + 1, by omega, by go_num, ?_, HBo.out.trans (hb4.trans hb5)⟩, by first | (simp [intOf]; done) | (simp [intOf]; omega)⟩
            show Two _ _ _ _ _ _
            rw [← HRL.out, ← HRH.out, ← HP2.out, ← HQ2.out]
            exact HT5.out
      · obtain rfl : k = D := by omega
        obtain ⟨h1, h2, _⟩ := HT.out
        obtain ⟨A1, c1, rfl, g1, _, g3⟩ := lies_ownI h1
        obtain ⟨A2, c2, rfl, g4, _, g5⟩ := lies_ownI h2
        have H1 := Lib.hid g1
        have H3 := Lib.hid g3
        have H4 := Lib.hid g4
        have H5 := Lib.hid g5
        clear g1 g3 g4 g5 h1 h2
        go_wp2
        go_ret3
        refine (hG.out _ _).2 ?_
        rw [hDN.out]
        exact ⟨A1, c1, A2, c2, rfl, H1.out, H4.out, H3.out, H5.out, HB.out⟩
  · have hE0 : boxE R d = false := by simpa using hE
    have hE1 := hE0
    unfold boxE at hE1
    rw [hE1] at K1
    have hG : Hid (∀ w', Below w.heap.size w w' → GivesBox R d w (.returned (.tuple #[.slice none 0 0, .slice none 0 0, .int .i64 80])) w') := fun w' hb => by
      unfold GivesBox boxLo boxHi boxC
      rw [hE0]
      exact ⟨none, 0, none, 0, rfl, by simp, by simp, Lies.nil, Lies.nil, hb⟩
    clear hA hE hE0 hE1
    generalize R.length = M at *
    go_enter Try.func78, Try.ntmps78
    go_wp2_with fail
    refine K1.out.mono ?_
    rintro e w2 ⟨rfl, rfl⟩
    go_wp2
    go_ret3
    exact hG.out _ (Below.refl _ _)
end Go.Proofs.Ytpjgnghmhbkmkaa
