/- Contracts of copseref03: Text; what its Parse tells. -/
import Derived.Test.YtbnpbflndnjmcaaDoorRatT
namespace Go.Proofs.YtbnpbflndnjmcaaDoor
open Go.RowKit

set_option maxHeartbeats 2000000 in
theorem ref3_text (p q : Int) (hp : I64 p) (hq : I64 q) (w : World) :
    Calls Tryd.prog 32 #[.agg #[.int .i64 p, .int .i64 q]] w fun e w' => e = .returned (.string (bstr (rtxt p q))) ∧ Below w.heap.size w w' := by
  have KI := Lib.hid (fun W => ref3_is p q hp hq W)
  have J0 := Lib.hid ((Keeps.start w).alloc #[.int .i64 p, .int .i64 q] 23)
  by_cases hv : Valid p q
  · rw [isB_of hv] at KI
    have lp := itxt_len hv.2.1
    have lq := itxt_len (n := q) (by have := hv.1; omega)
    have KP := Lib.hid (fun W => ref3_digits p hv.2.1 W)
    have KQ := Lib.hid (fun W => ref3_digits q (by have := hv.1; omega) W)
    by_cases h1 : q = 1
    · have HR : Hid (bstr (itxt p) = bstr (rtxt p q)) := by show _ = _; unfold rtxt; rw [if_pos hv, if_pos h1]
      have hb : (q == 1) = true := by simpa using h1
      have HH := Lib.hid h1
      clear h1
      go_enter Tryd.func32, Tryd.ntmps32
      go_wp2_with fail
      refine (KI.out _).mono ?_
      rintro e w1 ⟨rfl, b1⟩
      have J1 := Lib.hid (J0.out.below b1)
      obtain ⟨x0, x1, _, _⟩ := J1.out.head.two
      clear b1
      go_wp2_with fail
      refine (KP.out _).mono ?_
      rintro e w2 ⟨rfl, b2⟩
      go_wp2
      go_ret
      exact ⟨retS HR.out, (J1.out.below b2).2.1⟩
    · have HR : Hid (((⟨(itxt p).toArray⟩ : ByteArray) ++ ⟨#[47]⟩) ++ ⟨(itxt q).toArray⟩ = bstr (rtxt p q)) := by
        show _ = _
        unfold rtxt; rw [if_pos hv, if_neg h1]
        exact ByteArray.ext (by simp)
      have hb : (q == 1) = false := by simpa using h1
      have sp : (⟨(itxt p).toArray⟩ : ByteArray).size ≤ 11 := by show (itxt p).toArray.size ≤ 11; simpa using lp
      have sq : (⟨(itxt q).toArray⟩ : ByteArray).size ≤ 11 := by show (itxt q).toArray.size ≤ 11; simpa using lq
      have c1 : ∀ W : World, (Op.stringOp .add (⟨(itxt p).toArray⟩ : ByteArray) ⟨#[47]⟩).run Tryd.prog W = .ok (.string (⟨(itxt p).toArray⟩ ++ ⟨#[47]⟩)) W := fun W => run_string_add_sum _ _ _ (by have : (⟨#[47]⟩ : ByteArray).size = 1 := rfl; omega)
      have c2 : ∀ W : World, (Op.stringOp .add ((⟨(itxt p).toArray⟩ : ByteArray) ++ ⟨#[47]⟩) ⟨(itxt q).toArray⟩).run Tryd.prog W = .ok (.string ((⟨(itxt p).toArray⟩ ++ ⟨#[47]⟩) ++ ⟨(itxt q).toArray⟩)) W := fun W => run_string_add_sum _ _ _ (by rw [ByteArray.size_append]; have : (⟨#[47]⟩ : ByteArray).size = 1 := rfl; omega)
      clear sp sq
      generalize (⟨(itxt p).toArray⟩ : ByteArray) = tp at *
      generalize (⟨(itxt q).toArray⟩ : ByteArray) = tq at *
      have HH := Lib.hid h1
      clear h1
      go_enter Tryd.func32, Tryd.ntmps32
      go_wp2_with fail
      refine (KI.out _).mono ?_
      rintro e w1 ⟨rfl, b1⟩
      obtain ⟨x0, x1, _, _⟩ := (J0.out.below b1).head.two
      have J1 := Lib.hid (J0.out.below b1).drew
      clear b1
      go_wp2
      obtain ⟨x0, x1, _, _⟩ := J1.out.head.two
      go_region_held3 (fun wr => wr.cell? ⟨w.heap.size, 0, none⟩ = some (.int .i64 p) ∧ wr.cell? ⟨w.heap.size, 1, none⟩ = some (.int .i64 q)) (go_keep)
        (first
          | (go_at_call 53; ((with_reducible refine (KP.out _).mono ?_); rintro e w2 ⟨rfl, b2⟩; have J1 := Lib.hid (J1.out.below b2); obtain ⟨x0, x1, _, _⟩ := J1.out.head.two; clear b2))
          | (go_at_call 53; ((with_reducible refine (KQ.out _).mono ?_); rintro e w2 ⟨rfl, b2⟩; have J1 := Lib.hid (J1.out.below b2); obtain ⟨x0, x1, _, _⟩ := J1.out.head.two; clear b2)))
      all_goals
        go_wp2
        go_ret
        exact ⟨retS HR.out, J1.out.2.1⟩
  · have hb : isB p q = false := decide_eq_false hv
    have HR : Hid (bstr [] = bstr (rtxt p q)) := by show _ = _; unfold rtxt; rw [if_neg hv]
    rw [hb] at KI
    clear hb
    go_enter Tryd.func32, Tryd.ntmps32
    go_wp2_with fail
    refine (KI.out _).mono ?_
    rintro e w1 ⟨rfl, b1⟩
    go_wp2
    go_ret
    exact ⟨retS HR.out, (J0.out.below b1).2.1⟩

theorem cntN_bd (l : List UInt8) : 0 ≤ cntN l ∧ cntN l ≤ 9999999999 := by
  unfold cntN
  by_cases h : cntB l = true
  · rw [if_pos h]
    unfold cntB at h
    simp only [Bool.and_eq_true, decide_eq_true_eq] at h
    obtain ⟨⟨_, h2⟩, h3⟩ := h
    have key : ∀ (n : Nat) (m : List UInt8), m.length = n → m.all digB = true → 0 ≤ dec m ∧ dec m < 10 ^ n := by
      intro n
      induction n with
      | zero =>
        intro m hm _
        rw [List.length_eq_zero_iff.1 hm]; decide
      | succ n ih =>
        intro m hn hm
        have hne : m ≠ [] := by intro hc; rw [hc] at hn; simp at hn
        have e := List.dropLast_concat_getLast hne
        rw [← e, List.all_append, Bool.and_eq_true] at hm
        have h1 := ih m.dropLast (by rw [List.length_dropLast]; omega) hm.1
        have h2 : digB (m.getLast hne) = true := by simpa using hm.2
        have h3 := digB_bd h2
        rw [← e, dec_append, Int.pow_succ]
        omega
    have h4 := key _ l rfl h3
    have h5 := ten_mono h2
    have h6 : (10 : Int) ^ 10 = 10000000000 := by rfl
    omega
  · rw [if_neg h]; omega
def miB (t : List UInt8) : Bool := t.head? == some 45
def bdy (t : List UInt8) : List UInt8 := if miB t = true then t.drop 1 else t
def pP (t : List UInt8) : Int := if miB t = true then -cntN (bdy t) else cntN (bdy t)
theorem cnt_txt {n : Nat} (h : n ≤ 1073741824) : cntB (txt n) = true ∧ cntN (txt n) = n := by
  have h1 : cntB (txt n) = true := by
    unfold cntB
    rw [txt_all, decide_eq_true (txt_len 9 n (by omega))]
    cases hd : txt n with
    | nil => exact absurd hd (txt_ne n)
    | cons a b => rfl
  refine ⟨h1, ?_⟩
  unfold cntN
  rw [if_pos h1, dec_txt]
theorem itxt_cut {p : Int} (hp : -1073741824 ≤ p ∧ p ≤ 1073741824) : cntB (bdy (itxt p)) = true ∧ pP (itxt p) = p := by
  have key : bdy (itxt p) = txt p.natAbs ∧ miB (itxt p) = decide (p < 0) := by
    unfold itxt
    by_cases hn : p < 0
    · rw [if_pos hn, decide_eq_true hn]
      refine ⟨?_, rfl⟩
      have hm : miB (45 :: txt p.natAbs) = true := rfl
      unfold bdy
      rw [if_pos hm]; rfl
    · rw [if_neg hn, decide_eq_false hn]
      have e : p.toNat = p.natAbs := by omega
      have hm : miB (txt p.toNat) = false := by
        unfold miB
        cases hd : txt p.toNat with
        | nil => rfl
        | cons a b =>
          have := txt_no p.toNat 45 (by decide) a (by rw [hd]; exact List.mem_cons_self)
          simpa using this
      refine ⟨?_, hm⟩
      unfold bdy
      rw [if_neg (by rw [hm]; decide), e]
  obtain ⟨h1, h2⟩ := cnt_txt (n := p.natAbs) (by omega)
  unfold pP
  rw [key.1, key.2]
  refine ⟨h1, ?_⟩
  by_cases hn : p < 0
  · rw [if_pos (decide_eq_true hn), h2]; omega
  · rw [if_neg (by simpa using hn), h2]; omega
theorem rtxt_cut {p q : Int} (hv : Valid p q) : cutA (rtxt p q) = itxt p ∧ (q = 1 → cutF (rtxt p q) = false) ∧ (q ≠ 1 → cutF (rtxt p q) = true ∧ cutR (rtxt p q) = txt q.toNat) := by
  have hq := hv.1
  have hno : ∀ x ∈ itxt p, x ≠ 47 := by
    intro x hx
    unfold itxt at hx
    split at hx
    · rcases List.mem_cons.1 hx with rfl | h
      · decide
      · exact txt_no _ 47 (by decide) x h
    · exact txt_no _ 47 (by decide) x hx
  unfold rtxt
  rw [if_pos hv]
  by_cases h1 : q = 1
  · rw [if_pos h1]
    obtain ⟨a, b⟩ := cut_miss (l := itxt p) fun k he => hno 47 (List.mem_of_getElem? he) rfl
    exact ⟨a, fun _ => b, fun h => absurd h1 h⟩
  · rw [if_neg h1, itxt_pos (q := q) (by omega)]
    have h := cut_hit (itxt p).length (itxt p ++ 47 :: txt q.toNat) (by rw [List.getElem?_append_right (Nat.le_refl _)]; simp) (by
      intro k hk he
      rw [List.getElem?_append_left hk] at he
      exact hno 47 (List.mem_of_getElem? he) rfl)
    refine ⟨?_, fun h => absurd h h1, fun _ => ⟨h.2.2, ?_⟩⟩
    · rw [h.1]; simp
    · rw [h.2.1, List.drop_append]; simp
def cutQ (l : List UInt8) : Int := if cutF l = true then cntN (cutR l) else 1
theorem prOk_cut {l : List UInt8} (h : PrOk l) : cntB (bdy (cutA l)) = true ∧ (cutF l = true → cntB (cutR l) = true) ∧ rtxt (pP (cutA l)) (cutQ l) = l := by
  have hv := prOk_valid h
  have he := h.2
  generalize rdP l = p at *
  generalize dec (rdB l) = q at *
  have hq := hv.1
  obtain ⟨h1, h2, h3⟩ := rtxt_cut hv
  rw [he] at h1 h2 h3
  obtain ⟨i1, i2⟩ := itxt_cut hv.2.1
  rw [h1]
  refine ⟨i1, fun hf => ?_, ?_⟩
  · by_cases hq1 : q = 1
    · rw [h2 hq1] at hf; cases hf
    · rw [(h3 hq1).2]; exact (cnt_txt (by omega)).1
  · have hQ : cutQ l = q := by
      unfold cutQ
      by_cases hq1 : q = 1
      · rw [h2 hq1, if_neg (by decide), hq1]
      · rw [(h3 hq1).1, (h3 hq1).2, if_pos rfl, (cnt_txt (by omega)).2]; omega
    rw [i2, hQ, he]
theorem end_ok {l : List UInt8} {P Q : Int} (hl : l ≠ []) (h : rtxt P Q = l) : prV l = .tuple #[.agg #[.int .i64 P, .int .i64 Q], .int .i64 0] := by
  by_cases hv : Valid P Q
  · obtain ⟨h1, h2, h3⟩ := prOk_of hv h
    rw [prV_ok h1, h2, h3]
  · exfalso
    unfold rtxt at h
    rw [if_neg hv] at h
    exact hl h.symm
end Go.Proofs.YtbnpbflndnjmcaaDoor
