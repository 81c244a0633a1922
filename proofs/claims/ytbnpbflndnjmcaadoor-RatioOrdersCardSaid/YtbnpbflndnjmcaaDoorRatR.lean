/- The contract of ratio.read. -/
import Derived.Test.YtbnpbflndnjmcaaDoorRatP
namespace Go.Proofs.YtbnpbflndnjmcaaDoor
open Go.RowKit

def negB (l : List UInt8) : Bool := Lib.hasPrefix l [45]
def szL (l : List UInt8) : List UInt8 := Lib.trimPrefix l [45]
def rdA (l : List UInt8) : List UInt8 := cutA (szL l)
def rdB (l : List UInt8) : List UInt8 := if cutF (szL l) = true then cutB (szL l) else [49]
def rdP (l : List UInt8) : Int := if negB l = true then -dec (rdA l) else dec (rdA l)
def RdGood (l : List UInt8) : Prop := Good (rdA l) ∧ Good (rdB l)
theorem szL_len (l : List UInt8) : (szL l).length ≤ l.length := by
  unfold szL Lib.trimPrefix
  split
  · rw [List.length_drop]; omega
  · exact Nat.le_refl _
theorem cutA_len (l : List UInt8) : (cutA l).length ≤ l.length := by
  unfold cutA
  exact (List.takeWhile_sublist _).length_le
theorem cutB_len (l : List UInt8) : (cutB l).length ≤ l.length := by
  unfold cutB cutR
  split
  · rw [List.length_drop]
    have := (List.dropWhile_sublist (l := l) (· != 47)).length_le
    omega
  · simp
theorem bstr_size (l : List UInt8) : (⟨l.toArray⟩ : ByteArray).size = l.length := by show l.toArray.size = _; simp

/-- what the pieces of read answer -/
structure RdK (s sZ sA sB : ByteArray) (nb F : Bool) : Prop where
  k1 : ∀ W, Calls Tryd.prog 68 #[.string s, .string ⟨#[45]⟩] W fun e w' => e = .returned (.tuple #[.string sZ, .bool nb]) ∧ W = w'
  k2 : ∀ W, Calls Tryd.prog 69 #[.string sZ, .string ⟨#[47]⟩] W fun e w' => e = .returned (.tuple #[.string sA, .string sB, .bool F]) ∧ Below W.heap.size W w'
def endB (F : Bool) (sB : ByteArray) : ByteArray := match F with | true => sB | false => ⟨#[49]⟩
def PartIs (s : ByteArray) (n : Int) : Prop := (0 ≤ n ∧ n ≤ 1073741824) ∧ ∀ W, Calls Tryd.prog 70 #[.string s] W fun e w' => e = .returned (.tuple #[.int .i64 n, .int .i64 0]) ∧ Below W.heap.size W w'
def PartNo (s : ByteArray) : Prop := ∀ W, Calls Tryd.prog 70 #[.string s] W fun e w' => ∃ c : Int, (c != 0) = true ∧ e = .returned (.tuple #[.int .i64 0, .int .i64 c]) ∧ Below W.heap.size W w'

set_option maxHeartbeats 4000000 in
theorem read_gg (s sZ sA sB : ByteArray) (nb F : Bool) (p q : Int) (K : RdK s sZ sA sB nb F) (K3 : PartIs sA p) (K4 : PartIs (endB F sB) q) (w : World) :
    Calls Tryd.prog 51 #[.string s] w fun e w' => e = .returned (.tuple #[.agg #[.int .i64 (if nb = true then -p else p), .int .i64 q], .int .i64 0]) ∧ Below w.heap.size w w' := by
  have J0 := Lib.hid ((Keeps.start w).alloc #[.int .i64 0, .int .i64 0] 23)
  have K1 := Lib.hid K.k1
  have K2 := Lib.hid K.k2
  have p0 := K3.1
  have q0 := K4.1
  have KP := Lib.hid K3.2
  have KQ := Lib.hid K4.2
  clear K K3 K4
  obtain ⟨p1, p2⟩ := p0
  obtain ⟨q1, q2⟩ := q0
  obtain ⟨r, hr⟩ : ∃ r, r = (if nb = true then -p else p) := ⟨_, rfl⟩
  rw [← hr]
  have HR := Lib.hid hr
  clear hr
  cases F <;> cases nb
  all_goals
    unfold endB at KQ
    go_enter Tryd.func51, Tryd.ntmps51
    go_wp2_with fail
    refine (K1.out _).mono ?_
    rintro e w1 ⟨rfl, rfl⟩
    go_wp2_with fail
    refine (K2.out _).mono ?_
    rintro e w2 ⟨rfl, b2⟩
    have J2 := Lib.hid (J0.out.below b2)
    clear b2
    go_wp2_with fail
    refine (KP.out _).mono ?_
    rintro e w3 ⟨rfl, b3⟩
    have J3 := Lib.hid (J2.out.below b3)
    clear b3
    go_wp2_with fail
    refine (KQ.out _).mono ?_
    rintro e w4 ⟨rfl, b4⟩
    have J4 := Lib.hid (J3.out.below b4)
    obtain ⟨r0, r1, r2, r3⟩ := J4.out.head.two
    clear b4
    go_wp2
  · have hr2 : r = p := HR.out
    subst hr2
    have Z := J4.out.head.set2 (.int .i64 (r)) (.int .i64 q)
    obtain ⟨k0, k1, _, _⟩ := Z.two
    refine bodyPost_ret (v := .tuple #[.agg #[.int .i64 (r), .int .i64 q], .int .i64 0]) ?_ rfl ⟨rfl, (J4.out.2.1.setCell (p := ⟨w.heap.size, 0, none⟩) (by simp) _).setCell (p := ⟨w.heap.size, 1, none⟩) (by simp) _⟩
    simp [results, Tryd.results51, go_sem, k0, k1]
  · have hr2 : r = -p := HR.out
    subst hr2
    have Z := J4.out.head.set2 (.int .i64 (-p)) (.int .i64 q)
    obtain ⟨k0, k1, _, _⟩ := Z.two
    refine bodyPost_ret (v := .tuple #[.agg #[.int .i64 (-p), .int .i64 q], .int .i64 0]) ?_ rfl ⟨rfl, (J4.out.2.1.setCell (p := ⟨w.heap.size, 0, none⟩) (by simp) _).setCell (p := ⟨w.heap.size, 1, none⟩) (by simp) _⟩
    simp [results, Tryd.results51, go_sem, k0, k1]
  · have hr2 : r = p := HR.out
    subst hr2
    have Z := J4.out.head.set2 (.int .i64 (r)) (.int .i64 q)
    obtain ⟨k0, k1, _, _⟩ := Z.two
    refine bodyPost_ret (v := .tuple #[.agg #[.int .i64 (r), .int .i64 q], .int .i64 0]) ?_ rfl ⟨rfl, (J4.out.2.1.setCell (p := ⟨w.heap.size, 0, none⟩) (by simp) _).setCell (p := ⟨w.heap.size, 1, none⟩) (by simp) _⟩
    simp [results, Tryd.results51, go_sem, k0, k1]
  · have hr2 : r = -p := HR.out
    subst hr2
    have Z := J4.out.head.set2 (.int .i64 (-p)) (.int .i64 q)
    obtain ⟨k0, k1, _, _⟩ := Z.two
    refine bodyPost_ret (v := .tuple #[.agg #[.int .i64 (-p), .int .i64 q], .int .i64 0]) ?_ rfl ⟨rfl, (J4.out.2.1.setCell (p := ⟨w.heap.size, 0, none⟩) (by simp) _).setCell (p := ⟨w.heap.size, 1, none⟩) (by simp) _⟩
    simp [results, Tryd.results51, go_sem, k0, k1]

set_option maxHeartbeats 4000000 in
theorem read_b (s sZ sA sB : ByteArray) (nb F : Bool) (K : RdK s sZ sA sB nb F) (K3 : PartNo sA) (w : World) :
    Calls Tryd.prog 51 #[.string s] w fun e w' => ∃ c : Int, (c != 0) = true ∧ e = .returned (.tuple #[.agg #[.int .i64 0, .int .i64 0], .int .i64 c]) ∧ Below w.heap.size w w' := by
  have J0 := Lib.hid ((Keeps.start w).alloc #[.int .i64 0, .int .i64 0] 23)
  have K1 := Lib.hid K.k1
  have K2 := Lib.hid K.k2
  have KP := Lib.hid K3
  clear K K3
  cases F
  all_goals
    go_enter Tryd.func51, Tryd.ntmps51
    go_wp2_with fail
    refine (K1.out _).mono ?_
    rintro e w1 ⟨rfl, rfl⟩
    go_wp2_with fail
    refine (K2.out _).mono ?_
    rintro e w2 ⟨rfl, b2⟩
    have J2 := Lib.hid (J0.out.below b2)
    clear b2
    go_wp2_with fail
    refine (KP.out _).mono ?_
    rintro e w3 hh
    obtain ⟨c, hc, rfl, b3⟩ := hh
    have J3 := Lib.hid (J2.out.below b3)
    obtain ⟨r0, r1, r2, r3⟩ := J3.out.head.two
    clear b3
    have HC := Lib.hid hc
    go_wp2
    have Z := J3.out.head.set2 (.int .i64 0) (.int .i64 0)
    obtain ⟨k0, k1, _, _⟩ := Z.two
    refine bodyPost_ret (v := .tuple #[.agg #[.int .i64 0, .int .i64 0], .int .i64 c]) ?_ rfl ⟨c, HC.out, rfl, (J3.out.2.1.setCell (p := ⟨w.heap.size, 0, none⟩) (by simp) _).setCell (p := ⟨w.heap.size, 1, none⟩) (by simp) _⟩
    simp [results, Tryd.results51, go_sem, k0, k1]

set_option maxHeartbeats 4000000 in
theorem read_gb (s sZ sA sB : ByteArray) (nb F : Bool) (p : Int) (K : RdK s sZ sA sB nb F) (K3 : PartIs sA p) (K4 : PartNo (endB F sB)) (w : World) :
    Calls Tryd.prog 51 #[.string s] w fun e w' => ∃ c : Int, (c != 0) = true ∧ e = .returned (.tuple #[.agg #[.int .i64 0, .int .i64 0], .int .i64 c]) ∧ Below w.heap.size w w' := by
  have J0 := Lib.hid ((Keeps.start w).alloc #[.int .i64 0, .int .i64 0] 23)
  have K1 := Lib.hid K.k1
  have K2 := Lib.hid K.k2
  have KP := Lib.hid K3.2
  have KQ := Lib.hid K4
  clear K K3 K4
  cases F
  all_goals
    unfold endB at KQ
    go_enter Tryd.func51, Tryd.ntmps51
    go_wp2_with fail
    refine (K1.out _).mono ?_
    rintro e w1 ⟨rfl, rfl⟩
    go_wp2_with fail
    refine (K2.out _).mono ?_
    rintro e w2 ⟨rfl, b2⟩
    have J2 := Lib.hid (J0.out.below b2)
    clear b2
    go_wp2_with fail
    refine (KP.out _).mono ?_
    rintro e w3 ⟨rfl, b3⟩
    have J3 := Lib.hid (J2.out.below b3)
    clear b3
    go_wp2_with fail
    refine (KQ.out _).mono ?_
    rintro e w4 hh
    obtain ⟨c, hc, rfl, b4⟩ := hh
    have J4 := Lib.hid (J3.out.below b4)
    obtain ⟨r0, r1, r2, r3⟩ := J4.out.head.two
    clear b4
    have HC := Lib.hid hc
    go_wp2
    have Z := J4.out.head.set2 (.int .i64 0) (.int .i64 0)
    obtain ⟨k0, k1, _, _⟩ := Z.two
    refine bodyPost_ret (v := .tuple #[.agg #[.int .i64 0, .int .i64 0], .int .i64 c]) ?_ rfl ⟨c, HC.out, rfl, (J4.out.2.1.setCell (p := ⟨w.heap.size, 0, none⟩) (by simp) _).setCell (p := ⟨w.heap.size, 1, none⟩) (by simp) _⟩
    simp [results, Tryd.results51, go_sem, k0, k1]

theorem rdK (s : ByteArray) (hs : s.size ≤ maxLen) : RdK s ⟨(szL s.data.toList).toArray⟩ ⟨(rdA s.data.toList).toArray⟩ ⟨(cutB (szL s.data.toList)).toArray⟩ (negB s.data.toList) (cutF (szL s.data.toList)) := by
  have hl : s.data.toList.length = s.size := by simp
  have z1 := szL_len s.data.toList
  exact ⟨fun W => (Tryd.strings_CutPrefix s ⟨#[45]⟩ W).mono fun e w' h => ⟨h.1, h.2.symm⟩, fun W => (str_cut ⟨(szL s.data.toList).toArray⟩ (by rw [bstr_size]; omega) W).mono fun e w' h => ⟨h.1, drew_below h.2⟩⟩
theorem endB_is (l : List UInt8) : endB (cutF (szL l)) ⟨(cutB (szL l)).toArray⟩ = ⟨(rdB l).toArray⟩ := by
  unfold rdB
  cases cutF (szL l) <;> rfl
theorem rdA_size (s : ByteArray) (hs : s.size ≤ maxLen) : (⟨(rdA s.data.toList).toArray⟩ : ByteArray).size ≤ maxLen ∧ (⟨(rdB s.data.toList).toArray⟩ : ByteArray).size ≤ maxLen := by
  have hl : s.data.toList.length = s.size := by simp
  have z1 := szL_len s.data.toList
  have z2 := cutA_len (szL s.data.toList)
  have z3 := cutB_len (szL s.data.toList)
  rw [bstr_size, bstr_size]
  refine ⟨by show (cutA _).length ≤ _; omega, ?_⟩
  unfold rdB
  split
  · omega
  · unfold maxLen; simp
theorem rat_read_good (s : ByteArray) (hs : s.size ≤ maxLen) (hg : RdGood s.data.toList) (w : World) :
    Calls Tryd.prog 51 #[.string s] w fun e w' => e = .returned (.tuple #[.agg #[.int .i64 (rdP s.data.toList), .int .i64 (dec (rdB s.data.toList))], .int .i64 0]) ∧ Below w.heap.size w w' := by
  have hz := rdA_size s hs
  refine read_gg s _ _ _ _ _ (dec (rdA s.data.toList)) (dec (rdB s.data.toList)) (rdK s hs) ⟨⟨(good_dec hg.1).1, hg.1.2⟩, fun W => rat_part_good _ hz.1 hg.1 W⟩ ?_ w
  rw [endB_is]
  exact ⟨⟨(good_dec hg.2).1, hg.2.2⟩, fun W => rat_part_good _ hz.2 hg.2 W⟩
theorem rat_read_bad (s : ByteArray) (hs : s.size ≤ maxLen) (hg : ¬ RdGood s.data.toList) (w : World) :
    Calls Tryd.prog 51 #[.string s] w fun e w' => ∃ c : Int, (c != 0) = true ∧ e = .returned (.tuple #[.agg #[.int .i64 0, .int .i64 0], .int .i64 c]) ∧ Below w.heap.size w w' := by
  have hz := rdA_size s hs
  by_cases hA : Good (rdA s.data.toList)
  · refine read_gb s _ _ _ _ _ (dec (rdA s.data.toList)) (rdK s hs) ⟨⟨(good_dec hA).1, hA.2⟩, fun W => rat_part_good _ hz.1 hA W⟩ ?_ w
    rw [endB_is]
    exact fun W => rat_part_bad _ hz.2 (fun hB => hg ⟨hA, hB⟩) W
  · exact read_b s _ _ _ _ _ (rdK s hs) (fun W => rat_part_bad _ hz.1 hA W) w
end Go.Proofs.YtbnpbflndnjmcaaDoor
