/- Contracts of package ratio: its texts. -/
import Derived.Test.YtbnpbflndnjmcaaDoorRatE
import Derived.Test.YtbnpbflndnjmcaaDoorShelf
import Derived.Test.YtbnpbflndnjmcaaDoorWideX
import Derived.WalkSmall
import Derived.Lib.AppendIntMem
import Derived.Outline
namespace Go.Proofs.YtbnpbflndnjmcaaDoor
open Go.RowKit

theorem digits_txt (n : Nat) : Lib.decDigits n = txt n := by
  induction n using Nat.strongRecOn with
  | _ n ih =>
    by_cases h : n < 10
    · rw [txt_small h, Lib.decDigits_one h]
    · rw [txt_big h, ← ih (n / 10) (by omega)]
      conv => lhs; rw [Lib.decDigits]
      rw [dif_neg h]
/-- a number's digits, with a minus ahead if it is below 0 -/
def itxt (n : Int) : List UInt8 := if n < 0 then 45 :: txt n.natAbs else txt n.toNat
theorem itoa_txt (n : Int) : Lib.itoa n = itxt n := by
  unfold Lib.itoa itxt
  rw [digits_txt, digits_txt]
/-- the table of the library's own is as the text lays it -/
def Tab (w : World) : Prop := Lib.TabIs Tryd.prog w "internal/strconv.uint64pow10" .u64 Lib.pow10Tab ∧ 0 < w.heap.size
theorem glob_tab : Tryd.prog.globalNamed "internal/strconv.uint64pow10" = some 0 := by kernel_rfl
theorem Tab.below {w w' : World} (h : Tab w) (hb : Below w.heap.size w w') : Tab w' :=
  ⟨var?_below hb glob_tab h.2 h.1, Nat.lt_of_lt_of_le h.2 hb.size⟩
theorem Tab.alloc {w : World} (h : Tab w) (o : Obj) : Tab (w.alloc o) := h.below ((Below.refl _ _).alloc (Nat.le_refl _) _)
theorem Tab.drew {w : World} (h : Tab w) : Tab w.drew := h.below (Below.refl _ _).drew
theorem rat_itoa (n : Int) (hn : I64 n) (w : World) (ht : Tab w) :
    Calls Tryd.prog 50 #[.int .i64 n] w fun e w' => e = .returned (.string ⟨(itxt n).toArray⟩) ∧ Below w.heap.size w w' := by
  refine (Tryd.strconv_Itoa n hn.1 hn.2 w ht.1).mono fun e w' h => ?_
  obtain ⟨he, k, os, rfl⟩ := h
  rw [itoa_txt] at he
  refine ⟨he, ?_⟩
  exact Lib.below_grow _ w (Nat.le_refl _) k os
def rtxt (p q : Int) : List UInt8 := if Valid p q then (if q = 1 then itxt p else itxt p ++ 47 :: itxt q) else []
theorem itxt_len {n : Int} (h : -1073741824 ≤ n ∧ n ≤ 1073741824) : (itxt n).length ≤ 11 := by
  unfold itxt
  split
  · have := txt_len 9 n.natAbs (by show _ < 10 ^ 10; omega)
    simp only [List.length_cons]; omega
  · have := txt_len 9 n.toNat (by show _ < 10 ^ 10; omega)
    omega
theorem retS {a b : ByteArray} (h : a = b) : Ending.returned (.string a) = .returned (.string b) := by rw [h]
abbrev bstr (l : List UInt8) : ByteArray := ⟨l.toArray⟩
theorem bstr_app (a b : List UInt8) : bstr a ++ bstr b = bstr (a ++ b) := ByteArray.ext (by simp)

set_option maxHeartbeats 2000000 in
theorem rat_text (p q : Int) (hp : I64 p) (hq : I64 q) (w : World) (ht : Tab w) :
    Calls Tryd.prog 29 #[.agg #[.int .i64 p, .int .i64 q]] w fun e w' => e = .returned (.string (bstr (rtxt p q))) ∧ Below w.heap.size w w' := by
  have KI := Lib.hid (fun W => rat_is p q hp hq W)
  have J0 := Lib.hid ((Keeps.start w).alloc #[.int .i64 p, .int .i64 q] 23)
  have T0 := Lib.hid (ht.alloc (.cells #[.int .i64 p, .int .i64 q] 23))
  by_cases hv : Valid p q
  · rw [isB_of hv] at KI
    have lp := itxt_len hv.2.1
    have lq := itxt_len (n := q) (by have := hv.1; omega)
    have KP := Lib.hid (fun W hT => rat_itoa p hp W hT)
    have KQ := Lib.hid (fun W hT => rat_itoa q hq W hT)
    by_cases h1 : q = 1
    · have HR : Hid (bstr (itxt p) = bstr (rtxt p q)) := by show _ = _; unfold rtxt; rw [if_pos hv, if_pos h1]
      have hb : (q == 1) = true := by simpa using h1
      have HH := Lib.hid h1
      clear h1
      go_enter Tryd.func29, Tryd.ntmps29
      go_wp2_with fail
      refine (KI.out _).mono ?_
      rintro e w1 ⟨rfl, b1⟩
      have J1 := Lib.hid (J0.out.below b1)
      have T1 := Lib.hid (T0.out.below b1)
      obtain ⟨x0, x1, _, _⟩ := J1.out.head.two
      clear b1
      go_wp2_with fail
      refine (KP.out _ T1.out).mono ?_
      rintro e w2 ⟨rfl, b2⟩
      go_wp2
      go_ret
      exact ⟨retS HR.out, (J1.out.below b2).2.1⟩
    · have HR : Hid (((⟨(itxt p).toArray⟩ : ByteArray) ++ ⟨#[47]⟩) ++ ⟨(itxt q).toArray⟩ = bstr (rtxt p q)) := by
        show _ = _
        unfold rtxt; rw [if_pos hv, if_neg h1]
        exact ByteArray.ext (by simp)
      have hb : (q == 1) = false := by simpa using h1
      have sp : (⟨(itxt p).toArray⟩ : ByteArray).size ≤ 11 := by show (itxt p).toArray.size ≤ 11; simpa using lp
      have sq : (⟨(itxt q).toArray⟩ : ByteArray).size ≤ 11 := by show (itxt q).toArray.size ≤ 11; simpa using lq
      have c1 : ∀ W : World, (Op.stringOp .add (⟨(itxt p).toArray⟩ : ByteArray) ⟨#[47]⟩).run Tryd.prog W = .ok (.string (⟨(itxt p).toArray⟩ ++ ⟨#[47]⟩)) W := fun W => run_string_add_sum _ _ _ (by have : (⟨#[47]⟩ : ByteArray).size = 1 := rfl; omega)
      have c2 : ∀ W : World, (Op.stringOp .add ((⟨(itxt p).toArray⟩ : ByteArray) ++ ⟨#[47]⟩) ⟨(itxt q).toArray⟩).run Tryd.prog W = .ok (.string ((⟨(itxt p).toArray⟩ ++ ⟨#[47]⟩) ++ ⟨(itxt q).toArray⟩)) W := fun W => run_string_add_sum _ _ _ (by rw [ByteArray.size_append]; have : (⟨#[47]⟩ : ByteArray).size = 1 := rfl; omega)
      clear sp sq
      generalize (⟨(itxt p).toArray⟩ : ByteArray) = tp at *
      generalize (⟨(itxt q).toArray⟩ : ByteArray) = tq at *
      have HH := Lib.hid h1
      clear h1
      go_enter Tryd.func29, Tryd.ntmps29
      go_wp2_with fail
      refine (KI.out _).mono ?_
      rintro e w1 ⟨rfl, b1⟩
      obtain ⟨x0, x1, _, _⟩ := (J0.out.below b1).head.two
      have J1 := Lib.hid (J0.out.below b1).drew
      have T1 := Lib.hid (T0.out.below b1).drew
      clear b1
      go_wp2
      obtain ⟨x0, x1, _, _⟩ := J1.out.head.two
      go_region_held3 (fun wr => wr.cell? ⟨w.heap.size, 0, none⟩ = some (.int .i64 p) ∧ wr.cell? ⟨w.heap.size, 1, none⟩ = some (.int .i64 q)) (go_keep)
        (first
          | (go_at_call 50; ((with_reducible refine (KP.out _ T1.out).mono ?_); rintro e w2 ⟨rfl, b2⟩; have J1 := Lib.hid (J1.out.below b2); have T1 := Lib.hid (T1.out.below b2); obtain ⟨x0, x1, _, _⟩ := J1.out.head.two; clear b2))
          | (go_at_call 50; ((with_reducible refine (KQ.out _ T1.out).mono ?_); rintro e w2 ⟨rfl, b2⟩; have J1 := Lib.hid (J1.out.below b2); have T1 := Lib.hid (T1.out.below b2); obtain ⟨x0, x1, _, _⟩ := J1.out.head.two; clear b2)))
      all_goals
        go_wp2
        go_ret
        exact ⟨retS HR.out, J1.out.2.1⟩
  · have hb : isB p q = false := decide_eq_false hv
    have HR : Hid (bstr [] = bstr (rtxt p q)) := by show _ = _; unfold rtxt; rw [if_neg hv]
    rw [hb] at KI
    clear hb
    go_enter Tryd.func29, Tryd.ntmps29
    go_wp2_with fail
    refine (KI.out _).mono ?_
    rintro e w1 ⟨rfl, b1⟩
    go_wp2
    go_ret
    exact ⟨retS HR.out, (J0.out.below b1).2.1⟩
end Go.Proofs.YtbnpbflndnjmcaaDoor
