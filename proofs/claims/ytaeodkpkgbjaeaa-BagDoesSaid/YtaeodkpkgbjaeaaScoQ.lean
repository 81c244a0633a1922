/- Contracts of package score: sorted, Sort. -/
import Derived.Test.YtaeodkpkgbjaeaaScoS
namespace Go.Proofs.Ytaeodkpkgbjaeaa
open Go.RowKit
set_option linter.unusedVariables false
set_option linter.unusedSimpArgs false
set_option maxRecDepth 100000

theorem sco_merged2 (ad bd : Addr) (a b : List PQ) (na nb ca cb : Nat) (w : World) (hA : LiesS w w.heap.size (some ad) a) (hB : LiesS w w.heap.size (some bd) b) (oa : okS a) (ob : okS b) (ha : a.length = na) (hb : b.length = nb) (hca : na ≤ ca) (hcb : nb ≤ cb) (hn : na + nb ≤ 100000) (h0 : 0 < na + nb) :
    Calls Try.prog 200 #[.slice (some ad) na ca, .slice (some bd) nb cb, ordV] w (RowS (List.merge a b leB) w) := by
  subst ha hb
  exact sco_merged ad bd a b ca cb w hA hB oa ob hca hcb hn h0
/-- what sorted gives: a row of its own, in its order -/
def SortS (l : List PQ) (w : World) (e : Ending) (w' : World) : Prop := ∃ s A c, e = .returned (.slice A l.length c) ∧ l.length ≤ c ∧ LiesS w' w'.heap.size A s ∧ Below w.heap.size w w' ∧ IsSort l s
def SortN (l : List PQ) (n : Nat) (w : World) (e : Ending) (w' : World) : Prop := ∃ s ad c, e = .returned (.slice (some ad) n c) ∧ n ≤ c ∧ s.length = n ∧ LiesS w' w'.heap.size (some ad) s ∧ Below w.heap.size w w' ∧ IsSort l s
theorem SortS.n {l : List PQ} {n : Nat} {w w' : World} {e : Ending} (h : SortS l w e w') (hn : l.length = n) (h0 : 0 < n) : SortN l n w e w' := by
  obtain ⟨s, A, c, he, hc, hL, hb, hs⟩ := h
  obtain ⟨ad, rfl, _⟩ := hL (by rw [hs.len]; omega)
  subst hn
  exact ⟨s, ad, c, he, hc, hs.len, hL, hb, hs⟩
theorem okS.take {l : List PQ} (h : okS l) (k : Nat) : okS (l.take k) := fun x hx => h x (List.mem_of_mem_take hx)
theorem okS.drop {l : List PQ} (h : okS l) (k : Nat) : okS (l.drop k) := fun x hx => h x (List.mem_of_mem_drop hx)
theorem okS.perm {l s : List PQ} (h : okS l) (hs : IsSort l s) : okS s := fun x hx => h x (hs.1.mem_iff.1 hx)
theorem own_nil (w : World) (B : Nat) : OwnS w B (.slice none 0 0) [] := ⟨rfl, .inl ⟨rfl, rfl⟩⟩
theorem app_none {B : Nat} {W : World} {ops : Array Oper} {rest : List Oper} {o : Oper} {a : Act} {Q : Exit → Act → World → Prop} (hgd : o.guard = none) (s x : Operand)
    (ho : o.op = .call { callee := .builtin .append, args := #[s, x], argTypes := #[28, 28] })
    (v : Value) (l : List PQ) (hs : a.eval s = v) (hown : OwnS W B v l) (hx : a.eval x = .slice none 0 0)
    (h : wpList Try.prog ops Q rest (a.put o.dst v) W) : wpList Try.prog ops Q (o :: rest) a W := by
  obtain ⟨i0, hi, hz0, hz1, hz2⟩ := info_parts3 info_sc
  exact wpList_append_own_none hgd s x 28 ho B 24 i0 2 Try.underlying28 hi v l.length (celS l) hs hown hx h
theorem OwnS.sort {w w' : World} {v : Value} {l s : List PQ} (h : OwnS w' w.heap.size v s) (hb : Below w.heap.size w w') (hs : IsSort l s) : SortS l w (.returned v) w' := by
  have hl := hs.len
  rcases h.2 with ⟨rfl, h1⟩ | ⟨g, cap, cur, rfl, hbg, hh, hnc, hr⟩
  · exact ⟨s, none, 0, by rw [← hl, h1], by omega, fun h0 => absurd h0 (by omega), hb, hs⟩
  · obtain ⟨A, c, e, hL⟩ := OwnS.lies h
    cases e
    exact ⟨s, _, cap, by rw [hl], by omega, hL, hb, hs⟩
theorem sco_sorted_small (A : Option Addr) (l : List PQ) (n c : Nat) (w : World) (hl : l.length = n) (h1 : n < 2) (hz : A = none → c = 0) (hL : LiesS w w.heap.size A l) :
    Calls Try.prog 158 #[.slice A n c, ordV] w (SortS l w) := by
  have HS := Lib.hid (IsSort.small (l := l) (by omega))
  have HN := Lib.hid hl
  have hn1 : (n : Int) < 2 := by omega
  have H0 := Lib.hid (own_nil w w.heap.size)
  have HL := Lib.hid hL
  match A, hz, HL with
  | none, hz, HL =>
    obtain rfl := hz rfl
    have h0 : l = [] := by
      rcases Nat.eq_zero_or_pos l.length with h | h
      · exact List.eq_nil_of_length_eq_zero h
      · obtain ⟨_, e, _⟩ := hL h; cases e
    subst h0
    obtain rfl : n = 0 := by rw [← hl]; rfl
    clear hL hz hl
    go_enter Try.func158, Try.ntmps158
    go_wp2_with (at_builtin; refine app_none (B := w.heap.size) rfl (.const (.slice none 0 0)) (.tmp 9) rfl _ [] rfl H0.out rfl ?_)
    go_ret
    exact OwnS.sort H0.out (Below.refl _ _) HS.out
  | some ad, hz, HL =>
    clear hL hz
    have hsz : ([] : List PQ).length + n ≤ 1000000 := by simp; omega
    go_enter Try.func158, Try.ntmps158
    go_wp2_with (at_builtin; refine app_rowL (B := w.heap.size) rfl (.const (.slice none 0 0)) (.tmp 9) rfl _ [] l ad c n rfl rfl HN.out H0.out HL.out (Nat.le_refl _) hsz ?_; intro v3 w3 ho3 hb3; have HO3 := Lib.hid ho3; have HB3 := Lib.hid hb3; clear ho3 hb3)
    go_ret
    exact OwnS.sort HO3.out HB3.out HS.out
set_option maxHeartbeats 1000000 in
theorem sco_sorted : ∀ (n : Nat) (A : Option Addr) (l : List PQ) (N c : Nat) (w : World), N ≤ n → l.length = N → N ≤ 100000 → N ≤ c → (A = none → c = 0) → LiesS w w.heap.size A l → okS l → (∀ x ∈ l, okP x) →
    Calls Try.prog 158 #[.slice A N c, ordV] w (SortS l w) := by
  intro n
  induction n with
  | zero =>
    intro A l N c w h0 hN _ hc hz hL _ _
    exact sco_sorted_small A l N c w hN (by omega) hz hL
  | succ n ih =>
    intro A l N c w h0 hN hn hc hz hL hI hok
    by_cases h1 : N < 2
    · exact sco_sorted_small A l N c w hN h1 hz hL
    · obtain ⟨ad, rfl, _⟩ := hL (by omega)
      obtain ⟨h, hh⟩ : ∃ h : Nat, h = N / 2 := ⟨_, rfl⟩
      have K1 : Hid (∀ W, Below w.heap.size w W → Calls Try.prog 158 #[.slice (some ad) h c, ordV] W (SortN (l.take h) h W)) := fun W hb => by
        have := ih (some ad) (l.take h) h c W (by omega) (by rw [List.length_take]; omega) (by omega) (by omega) (fun h => by cases h) ((hL.below hb).mono hb.size |>.take h) (hI.take h) (fun x hx => hok x (List.mem_of_mem_take hx))
        exact this.mono fun e w' g => g.n (by rw [List.length_take]; omega) (by omega)
      have K2 : Hid (∀ W, Below w.heap.size w W → Calls Try.prog 158 #[.slice (some (ad.add (h * 2))) (N - h) (c - h), ordV] W (SortN (l.drop h) (N - h) W)) := fun W hb => by
        have := ih (some (ad.add (h * 2))) (l.drop h) (N - h) (c - h) W (by omega) (by rw [List.length_drop]; omega) (by omega) (by omega) (fun h => by cases h) ((hL.below hb).mono hb.size |>.drop h) (hI.drop h) (fun x hx => hok x (List.mem_of_mem_drop hx))
        exact this.mono fun e w' g => g.n (by rw [List.length_drop]; omega) (by omega)
      have HI := Lib.hid hI
      have HOK := Lib.hid hok
      have HN := Lib.hid hN
      clear ih hL hI hok hz hN
      have hdiv : (N : Int) / 2 = (h : Int) := by omega
      have hh1 : 1 ≤ h := by omega
      have hh2 : h < N := by omega
      have hh3 : ¬ c - h = 0 := by omega
      have hh4 : ¬ c = h := by omega
      have hi1 : (0 : Int) ≤ (h : Int) := by omega
      have hi2 : (h : Int) ≤ (N : Int) := by omega
      have hi3 : (h : Int) ≤ (c : Int) := by omega
      have hi4 : (N : Int) ≤ (c : Int) := by omega
      have hi5 : ¬ (N : Int) < 2 := by omega
      have hq : wrap64 ((N : Int) / 2) = (h : Int) := by unfold wrap64; omega
      clear hh
      go_enter Try.func158, Try.ntmps158
      go_wp2
      have HB : Hid (Below w.heap.size w w.drew) := (Below.refl _ w).drew
      go_region_held3 (fun _ => True) (trivial)
        (first
          | (go_at_call 158; ((with_reducible refine (K1.out _ HB.out).mono ?_); rintro e wa ⟨s1, ad1, c1, rfl, hc1, hn1, hL1, hb1, hs1⟩; have L1 := Lib.hid hL1; have S1 := Lib.hid hs1; have HB := Lib.hid (HB.out.trans (hb1.mono HB.out.size)); (try have L2 := Lib.hid ((L2.out.below hb1).mono hb1.size)); clear hb1 hL1 hs1))
          | (go_at_call 158; ((with_reducible refine (K2.out _ HB.out).mono ?_); rintro e wa ⟨s2, ad2, c2, rfl, hc2, hn2, hL2, hb1, hs2⟩; have L2 := Lib.hid hL2; have S2 := Lib.hid hs2; have HB := Lib.hid (HB.out.trans (hb1.mono HB.out.size)); (try have L1 := Lib.hid ((L1.out.below hb1).mono hb1.size)); clear hb1 hL2 hs2))
          | (go_at_call 200; ((with_reducible refine (sco_merged2 ad1 ad2 s1 s2 h (N - h) c1 c2 _ L1.out L2.out ((HI.out.take h).perm S1.out) ((HI.out.drop h).perm S2.out) hn1 hn2 hc1 hc2 (by omega) (by omega)).mono ?_); rintro e wc ⟨adm, cm, rfl, hcm, hLm, hbm⟩; have LM := Lib.hid hLm; have HB := Lib.hid (HB.out.trans (hbm.mono HB.out.size)); have HC := Lib.hid hcm; clear hbm hLm hcm)))
      all_goals
        go_wp2
        go_ret
        have HM := S1.out.merge (k := h) HOK.out S2.out
        exact ⟨List.merge s1 s2 leB, some adm, cm, (by show Ending.returned (Value.slice (some adm) (h + (N - h)) cm) = _; rw [show h + (N - h) = l.length from by rw [HN.out]; omega]), by rw [← HM.len]; exact HC.out, LM.out, HB.out, HM⟩
end Go.Proofs.Ytaeodkpkgbjaeaa
