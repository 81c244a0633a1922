import Derived.Test.YtehekdahlnpldaaPickK
import Derived.Test.YtehekdahlnpldaaPickE

/-! Layer 7: Back. -/
namespace Go.Proofs.Ytehekdahlnpldaa
open Go.RowKit Go.Maps
set_option linter.unusedVariables false
set_option linter.unusedSimpArgs false

theorem ref_Back_0 (A : Option Addr) (c : Nat) (w : World) : Calls Try.prog 23 #[.int .i64 0, .slice A 0 c] w (GivesP ([], true) w) := by
  have KR := Lib.hid ref_row0
  go_enter Try.func23, Try.ntmps23
  go_wp2_with fail
  refine (KR.out _).mono ?_
  rintro e1 w1 ⟨rfl, rfl⟩
  go_wp2
  go_loopw [7, 8] (fun pv i wr => pv = .slice none 0 0 ∧ i = .int .i64 0 ∧ wr = w) (fun _ i _ => 0)
  case atStart => exact ⟨rfl, rfl, rfl⟩
  case round =>
    obtain ⟨rfl, rfl, rfl⟩ := hrel
    go_wp2
    go_ret2
    exact givesP_nil (Below.refl _ _)
theorem backOk_len {n : Int} {s : List Int} (h : backOk n s) : (s.length : Int) ≤ n := by
  have := bckOk_len (bckOk_iff.2 h.2.2)
  have := h.1
  omega
theorem ref_Back (A : Option Addr) (s : List Int) (c : Nat) (n : Int) (w : World) (hA : Lies w w.heap.size A s) :
    Calls Try.prog 23 #[.int .i64 n, .slice A s.length c] w (GivesP (backV n s) w) := by
  by_cases h1 : n < 0
  · rw [back_no (fun h => by have := h.1; omega)]
    clear hA
    generalize s.length = M at *
    go_enter Try.func23, Try.ntmps23
    go_wp2
    go_ret2
    exact givesP_nil (Below.refl _ _)
  · by_cases h2 : 256 < n
    · rw [back_no (fun h => by have := h.2.1; omega)]
      clear hA
      generalize s.length = M at *
      go_enter Try.func23, Try.ntmps23
      go_wp2
      go_ret2
      exact givesP_nil (Below.refl _ _)
    · by_cases h3 : n < (s.length : Int)
      · rw [back_no (fun h => by have := backOk_len h; omega)]
        clear hA
        generalize s.length = M at *
        go_enter Try.func23, Try.ntmps23
        go_wp2
        go_ret2
        exact givesP_nil (Below.refl _ _)
      · obtain ⟨N, rfl⟩ : ∃ N : Nat, n = N := ⟨n.toNat, by omega⟩
        rcases Nat.eq_zero_or_pos N with e | e
        · subst e
          have hp : s = [] := List.eq_nil_of_length_eq_zero (by omega)
          subst hp
          rw [back_yes ⟨by omega, by omega, ⟨List.nodup_nil, by simp⟩⟩]
          exact ref_Back_0 A c w
        · exact ref_Back_go A s c N w hA (by omega) e (by omega)

/-! ### different -/
theorem nodup_snoc {l : List Int} {x : Int} : (l ++ [x]).Nodup ↔ l.Nodup ∧ ¬ x ∈ l := by
  simp only [List.Nodup, List.pairwise_append, List.pairwise_cons, List.not_mem_nil, List.mem_singleton]
  constructor
  · rintro ⟨h1, _, h2⟩
    exact ⟨h1, fun hx => h2 x hx x rfl rfl⟩
  · rintro ⟨h1, h2⟩
    exact ⟨h1, ⟨fun _ h => h.elim, List.Pairwise.nil⟩, fun a ha b hb e => h2 (by rw [← hb, ← e]; exact ha)⟩
theorem nodup_take {s : List Int} {k : Nat} (h : s.Nodup) : (s.take k).Nodup := h.sublist (List.take_sublist k s)
/-- the keys of a map are the first numbers, all different -/
def Seen (D : DataW Unit) (l : List Int) : Prop := IsMap D ∧ Maps.size D = l.length ∧ ∀ x, I64 x → (Maps.has D (.int .i64 x) = true ↔ x ∈ l)
theorem seen_nil : Seen (.map []) [] := ⟨⟨[], rfl⟩, rfl, fun x _ => by simp [Maps.has]⟩
theorem Seen.put {D : DataW Unit} {l : List Int} (h : Seen D l) {x : Int} (hn : ¬ x ∈ l) (hx : I64 x) (d : DataW Unit) (hT : Tidy D) : Seen (D.put (.int .i64 x) d) (l ++ [x]) := by
  obtain ⟨h1, h2, h3⟩ := h
  have hf : Maps.has D (.int .i64 x) = false := by rw [← Bool.not_eq_true, h3 x hx]; exact hn
  refine ⟨h1.put _ _, ?_, fun y hy => ?_⟩
  · rw [size_put hT _, hf, List.length_append, h2]; rfl
  · by_cases e : y = x
    · subst e
      rw [has_put_same h1 (litKey y)]; simp
    · rw [has_put_other (lit_ne e), h3 y hy]; simp [e]
set_option maxHeartbeats 4000000 in
set_option maxRecDepth 100000 in
theorem pick_different (A : Option Addr) (s : List Int) (c : Nat) (n : Int) (w : World) (hA : Lies w w.heap.size A s) (hi : ∀ x ∈ s, I64 x) (hn0 : 0 ≤ n) (hn : n ≤ 256) (hl : (s.length : Int) ≤ 9223372036854775807) :
    Calls Try.prog 63 #[.slice A s.length c, .int .i64 n] w fun e w' => e = .returned (.bool (decide (diffV s n))) ∧ Below w.heap.size w w' := by
  have HA := Lib.hid (fun W (h : Below w.heap.size w W) => hA.below h)
  have HI := Lib.hid (fun k (h : k < s.length) => hi _ (mem_getD h))
  have HTK := Lib.hid (fun k (h : k < s.length) => take_get s h)
  have HTL : Hid (∀ k, k ≤ s.length → (s.take k).length = k) := fun k h => by rw [List.length_take]; omega
  have HNO1 : Hid (∀ k, k < s.length → ¬ (0 ≤ s.getD k 0 ∧ s.getD k 0 < n) → decide (diffV s n) = false) := fun k hk hx => decide_eq_false (fun h => hx (h.2 _ (mem_getD hk)))
  have HNO2 : Hid (∀ k, k < s.length → s.getD k 0 ∈ s.take k → decide (diffV s n) = false) := fun k hk hx => decide_eq_false (fun h => by
    have h2 := nodup_take (k := k + 1) h.1
    rw [take_get s hk, nodup_snoc] at h2
    exact h2.2 hx)
  have HYES : Hid ((s.take s.length).Nodup → (∀ x ∈ s.take s.length, 0 ≤ x ∧ x < n) → decide (diffV s n) = true) := fun h1 h2 => by
    rw [List.take_length] at h1 h2
    exact decide_eq_true ⟨h1, h2⟩
  have KW := Lib.hid (fun x W => pick_within x 0 (n - 1) W)
  generalize decide (diffV s n) = Z at *
  clear hA hi
  generalize hM : s.length = M at *
  have HM := Lib.hid hM
  clear hM
  have hmm := @run_makeMap Try.prog
  go_enter Try.func63, Try.ntmps63
  go_wp2
  go_loopw [11] (fun i wr => ∃ (k : Nat) (D : DataW Unit), k ≤ M ∧ i = .int .i64 k ∧ Hid (wr.ownsMap Try.prog 3 (plainElem Try.prog 3) w.heap.size k D) ∧ Hid (Seen D (s.take k)) ∧ Hid ((s.take k).Nodup) ∧ Hid (∀ x ∈ s.take k, 0 ≤ x ∧ x < n) ∧ Hid (Below w.heap.size w wr)) (fun i _ => M - (intOf i).toNat)
  case atStart => exact ⟨0, _, by omega, rfl, World.ownsMap_made _ _ _ _, seen_nil, List.nodup_nil, fun x hx => by simp at hx, (Below.refl _ _).alloc (Nat.le_refl _) _⟩
  case round =>
    obtain ⟨k, D, hk, rfl, HO, HS, HN, HR, HB⟩ := hrel
    by_cases hlt : k < M
    · have hlg : (k : Int) < (M : Int) := by omega
      have HLI := Lib.hid (HA.out wr HB.out)
      obtain ⟨ad, rfl, hab, hcell⟩ := HLI.out.at (k := k) (by have := HM.out; omega)
      have hxi := HI.out k hlt
      have HTKk := Lib.hid (HTK.out k hlt)
      have HN1 := Lib.hid (HNO1.out k hlt)
      have HN2 := Lib.hid (HNO2.out k hlt)
      have hsz : Hid (Maps.size D = k) := by show _ = _; rw [HS.out.2.1, HTL.out k hk]
      have HHAS := Lib.hid (HS.out.2.2 _ hxi)
      have HPUT := Lib.hid (fun hn d => HS.out.put (x := s.getD k 0) hn hxi d (HO.out.tidy lawI))
      have HSP := Lib.hid (fun d => size_put (k := .int .i64 (s.getD k 0)) (HO.out.tidy lawI) d)
      generalize s.getD k 0 = x at *
      have hkey : keyOf Try.prog 3 (.int .i64 x) = some (.int .i64 x) := keyOf_int_mk Try.underlying3 (wf_i64 hxi)
      have hown := HO.out
      go_wp2_with (first
        | (at_lookup; refine wpList_lookup_own_int _ rfl _ _ 114 rfl 3 3 .i64 lawI Try.underlying114 Try.underlying3 (zeroI _) w.heap.size k D rfl hown _ _ rfl hkey ?_; intro cc hat hwc)
        | (at_mapUpdate; refine wpList_mapUpdate_own _ rfl _ _ _ 114 rfl 3 3 lawI Try.underlying114 _ w.heap.size k D rfl hown (by unfold maxLen; omega) _ _ _ rfl rfl hkey _ [] (plainElem_int Try.underlying3 (wrap64_wf _)) ?_; intro w1 hown1 hgrow1)
        | fail)
      have HO1 := Lib.hid hown1
      have HB1 := Lib.hid (HB.out.grown hgrow1 HB.out.size (fun j hj => by cases hj; exact Nat.le_refl _))
      have K := Lib.hid (KW.out x w1)
      clear hown hgrow1 hown1
      by_cases hx : 0 ≤ x ∧ x < n
      · rw [show decide (0 ≤ x ∧ x ≤ n - 1) = true from by simp; omega] at K
        go_wp2_with fail
        refine K.out.mono ?_
        rintro e1 w2 ⟨rfl, rfl⟩
        generalize hd : (DataW.lit (Lit.int .i64 (wrap64 (cc + 1)))) = d at *
        by_cases hm : x ∈ s.take k
        · have hz := HN2.out hm
          have HS2 : Hid (Maps.size (D.put (.int .i64 x) d) = k) := by show _ = _; rw [HSP.out d, if_pos (HHAS.out.2 hm), hsz.out]
          have HZ := Lib.hid hz
          clear hz
          have hown1 := HO1.out
          have hlen := fun ty => hown1.len (t := 114) (e := 3) Try.underlying114 ty
          rw [HS2.out] at hlen
          clear hown1
          obtain ⟨q, hq⟩ : ∃ q : Nat, q = k := ⟨_, rfl⟩
          rw [← hq] at hlen
          have hne : ((q : Int) == (k : Int) + 1) = false := by rw [beq_eq_false_iff_ne]; omega
          have hne2 : ¬ (q : Int) = (k : Int) + 1 := by omega
          clear hq hm
          go_wp2
          go_ret
          rw [HZ.out]
          exact ⟨rfl, HB1.out⟩
        · have HS2 : Hid (Maps.size (D.put (.int .i64 x) d) = k + 1) := by show _ = _; rw [HSP.out d, if_neg (fun h => hm (HHAS.out.1 h)), hsz.out]
          have hown1 := HO1.out
          have HPM := Lib.hid (HPUT.out hm d)
          have HNX : Hid ((s.take (k + 1)).Nodup) := by show List.Nodup _; rw [HTKk.out, nodup_snoc]; exact ⟨HN.out, hm⟩
          have HRX : Hid (∀ y ∈ s.take (k + 1), 0 ≤ y ∧ y < n) := fun y hy => by
            rw [HTKk.out] at hy
            rcases List.mem_append.1 hy with h | h
            · exact HR.out y h
            · rw [List.mem_singleton.1 h]; exact hx
          rw [← HTKk.out] at HPM
          clear hm
          have hlen := fun ty => hown1.len (t := 114) (e := 3) Try.underlying114 ty
          rw [HS2.out] at hlen
          clear hown1
          go_wp2
          refine ⟨⟨k + 1, _, by omega, by go_num, HO1.out, HPM.out, HNX.out, HRX.out, HB1.out⟩, by first | (simp [intOf]; done) | (simp [intOf]; omega)⟩
      · rw [show decide (0 ≤ x ∧ x ≤ n - 1) = false from by simp; omega] at K
        have hz := HN1.out hx
        have HZ := Lib.hid hz
        clear hz
        go_wp2_with fail
        refine K.out.mono ?_
        rintro e1 w2 ⟨rfl, rfl⟩
        go_wp2
        go_ret
        rw [HZ.out]
        exact ⟨rfl, HB1.out⟩
    · obtain rfl : k = M := by omega
      have hz := HYES.out HN.out HR.out
      have HZ := Lib.hid hz
      clear hz
      go_wp2
      go_ret
      rw [HZ.out]
      exact ⟨rfl, HB.out⟩
end Go.Proofs.Ytehekdahlnpldaa
