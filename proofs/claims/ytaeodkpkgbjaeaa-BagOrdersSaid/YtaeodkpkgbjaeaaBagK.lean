/- Layer 18 (bag): Rank's closure, Kth. -/
import Derived.Test.YtaeodkpkgbjaeaaBagF
import Derived.Test.YtaeodkpkgbjaeaaBagG
namespace Go.Proofs.Ytaeodkpkgbjaeaa
open Go.RowKit
set_option linter.unusedVariables false
set_option linter.unusedSimpArgs false

set_option maxRecDepth 100000 in
set_option maxHeartbeats 4000000 in
theorem bag_rank1 (a b c d : Int) (ha : I64 a) (hb : I64 b) (hc : I64 c) (hd : I64 d) (gs gm gl : Nat) (w : World) (hs : Box w gs #[.int .i64 c, .int .i64 d] 24)
    (hm : Box w gm #[.func (.func 145) #[] #[.pointer (some ⟨gl, 0, none⟩)]] 44) (hl : Box w gl #[.int .i64 c, .int .i64 d] 24) :
    Calls Try.prog 87 #[.agg #[.int .i64 a, .int .i64 b], .pointer (some ⟨gs, 0, none⟩), .pointer (some ⟨gm, 0, none⟩)] w fun e w' => e = .returned (.bool (upB (c, d) (a, b))) ∧ Below w.heap.size w w' := by
  have J0 := Lib.hid ((Keeps.start w).alloc #[.int .i64 a, .int .i64 b] 24)
  obtain ⟨x0, x1, _, _⟩ := J0.out.head.two
  have HS := Lib.hid (hs.below J0.out.2.1 hs.lt)
  have HM := Lib.hid (hm.below J0.out.2.1 hm.lt)
  have HL := Lib.hid (hl.below J0.out.2.1 hl.lt)
  obtain ⟨s0, s1, _, _⟩ := HS.out.two
  have m0 := (HM.out.cell 0).trans rfl
  have K := Lib.hid (fun W (h : Box W gl #[.int .i64 c, .int .i64 d] 24) => bag_more a b c d ha hb hc hd gl W h)
  clear hs hm hl
  unfold upB
  by_cases h : a = c ∧ b = d
  · obtain ⟨rfl, rfl⟩ := h
    rw [decide_eq_true (show ((a, b) : PQ) = (a, b) from rfl), Bool.true_or]
    clear K
    go_enter Try.func87, Try.ntmps87
    go_wp2
    go_ret
    exact ⟨by trivial, J0.out.2.1⟩
  · have hne : ¬ (((a, b) : PQ) = (c, d)) := fun e => h ⟨congrArg Prod.fst e, congrArg Prod.snd e⟩
    rw [decide_eq_false hne, Bool.false_or]
    show Calls _ _ _ _ fun e w' => e = .returned (.bool (byB a b c d)) ∧ _
    clear hne
    generalize byB a b c d = B at *
    have key : (¬ a = c) ∨ (a = c ∧ ¬ b = d) := by omega
    clear h
    rcases key with h1 | ⟨rfl, h1⟩
    all_goals
      go_enter Try.func87, Try.ntmps87
      go_wp2_with fail
      refine (K.out _ HL.out).mono ?_
      rintro e w1 ⟨rfl, b1⟩
      have J1 := Lib.hid (J0.out.below b1)
      clear b1
      go_wp2
      go_ret
      exact ⟨by trivial, J1.out.2.1⟩
theorem kth_in {bs : List Blk} {a i : Nat} (h : sumA bs a + i < (flat bs).length) (ha : a < bs.length) (hi : ¬ i < lnA bs a) : a + 1 < bs.length ∧ sumA bs (a + 1) + (i - lnA bs a) = sumA bs a + i := by
  have e := sumA_succ bs a
  refine ⟨?_, by omega⟩
  rcases Nat.lt_or_ge (a + 1) bs.length with g | g
  · exact g
  · have : bs.length = a + 1 := by omega
    rw [← sumA_all, this, e] at h; omega
set_option maxRecDepth 100000 in
set_option maxHeartbeats 4000000 in
theorem bag_kth (g gB c k : Nat) (cnt : Int) (bs : List Blk) (w : World) (hb : Box w g #[.slice (some ⟨gB, 0, none⟩) bs.length c, .int .i64 cnt] 126) (hL : LiesB w w.heap.size gB bs) (hO : OkB bs) (hc : bs.length ≤ c)
    (hcnt : cnt = ((flat bs).length : Int)) (hn : (flat bs).length ≤ 100000) (hk0 : k < (flat bs).length) :
    Calls Try.prog 24 #[.pointer (some ⟨g, 0, none⟩), .int .i64 ((k : Int) + 1)] w fun e w' => e = .returned (.tuple #[.agg #[.int .i64 ((flat bs).getD k pq0).1, .int .i64 ((flat bs).getD k pq0).2], .int .i64 0]) ∧ Below w.heap.size w w' := by
  have J0 := Lib.hid ((Keeps.start w).alloc #[.int .i64 0, .int .i64 0] 24)
  obtain ⟨x0, x1, _, _⟩ := (hb.below J0.out.2.1 hb.lt).two
  have HR := Lib.hid (J0.out.head)
  have HL := Lib.hid (hL.below J0.out.2.1)
  have HO := Lib.hid hO
  have HK := Lib.hid hk0
  have HN := Lib.hid hcnt
  have HI := Lib.hid (fun a i (h : sumA bs a + i < (flat bs).length) (ha : a < bs.length) hi => kth_in h ha hi)
  have HF := Lib.hid (fun d r (h1 : d < bs.length) (h2 : r < lnA bs d) => (flat_at bs d r h1 h2).1)
  have h1 : (k : Int) + 1 ≤ cnt := by omega
  have h2 : ¬ ((k : Int) + 1 < 1) := by omega
  have h3 : cnt ≤ 100000 := by omega
  have hfew := hO.few
  clear hb hL hO hcnt hk0 hn
  generalize hLN : bs.length = N at *
  have HLN := Lib.hid hLN
  clear hLN
  go_enter Try.func24, Try.ntmps24
  go_wp2
  go_loopw [6, 7] (fun av iv wr => ∃ a i : Nat, av = .int .i64 a ∧ iv = .int .i64 i ∧ a < N ∧ Hid (sumA bs a + i = k) ∧ i ≤ 100000 ∧ wr = w.alloc (.cells #[.int .i64 0, .int .i64 0] 24)) (fun av _ _ => N - (intOf av).toNat)
  case atStart => exact ⟨0, k, rfl, by go_num, by have := HO.out.some; rw [HLN.out] at this; exact this, by show 0 + k = k; omega, by have := HK.out; omega, rfl⟩
  case round =>
    obtain ⟨a, i, rfl, rfl, haN, HS, hi, rfl⟩ := hrel
    have c1 := HL.out.hd a (by rw [HLN.out]; exact haN)
    have hbk : (a : Int) < (N : Int) := by omega
    have hln : Hid (lnA bs a ≤ 64) := HO.out.room a (by rw [HLN.out]; exact haN)
    by_cases hlt : i < lnA bs a
    · obtain ⟨s0, s1⟩ := HL.out.score (by rw [HLN.out]; exact haN) hlt
      have HE := Lib.hid (HF.out a i haN hlt)
      rw [HS.out] at HE
      unfold scA at HE
      have HE1 := Lib.hid (congrArg Prod.fst HE.out)
      have HE2 := Lib.hid (congrArg Prod.snd HE.out)
      clear HE
      unfold blkV at c1
      have hi2 : (i : Int) < (lnA bs a : Int) := by omega
      rw [show (bs.getD a bk0).2.length = lnA bs a from rfl] at c1
      clear HS
      generalize (bs.getD a bk0).1 = gb at *
      generalize lnA bs a = m at *
      have hm : m ≤ 64 := hln.out
      generalize ((bs.getD a bk0).2.getD i pq0).1 = p at *
      generalize ((bs.getD a bk0).2.getD i pq0).2 = q at *
      obtain ⟨r0, r1, f0, f1⟩ := HR.out.two
      go_wp2
      obtain ⟨k0, k1, _, _⟩ := (Box.new w #[.int .i64 p, .int .i64 q] 24).two
      refine bodyPost_ret (v := .tuple #[.agg #[.int .i64 p, .int .i64 q], .int .i64 0]) ?_ rfl ⟨by rw [HE1.out, HE2.out], (Below.refl _ _).alloc (Nat.le_refl _) _⟩
      simp [results, Try.results24, go_sem, k0, k1]
    · obtain ⟨ha1, hs1⟩ := HI.out a i (by rw [HS.out]; exact HK.out) haN hlt
      rw [HS.out] at hs1
      have HS1 := Lib.hid hs1
      unfold blkV at c1
      have hi2 : ¬ (i : Int) < (lnA bs a : Int) := by omega
      rw [show (bs.getD a bk0).2.length = lnA bs a from rfl] at c1
      clear HS hs1
      generalize (bs.getD a bk0).1 = gb at *
      generalize lnA bs a = m at *
      have hm : m ≤ 64 := hln.out
      go_wp2
      refine ⟨⟨a + 1, i - m, by go_num, ?_, ha1, HS1, by omega, trivial⟩, ?_⟩
      · refine congrArg (Value.int .i64) ?_
        omega
      · simp only [intOf]
        omega
set_option maxRecDepth 100000 in
set_option maxHeartbeats 4000000 in
theorem bag_kth_no (g : Nat) (v : Value) (k cnt : Int) (w : World) (hb : Box w g #[v, .int .i64 cnt] 126) (h : k < 1 ∨ cnt < k) :
    Calls Try.prog 24 #[.pointer (some ⟨g, 0, none⟩), .int .i64 k] w fun e w' => e = .returned (.tuple #[.agg #[.int .i64 0, .int .i64 0], .int .i64 1]) ∧ Below w.heap.size w w' := by
  have J0 := Lib.hid ((Keeps.start w).alloc #[.int .i64 0, .int .i64 0] 24)
  obtain ⟨x0, x1, _, _⟩ := (hb.below J0.out.2.1 hb.lt).two
  have HR := Lib.hid J0.out.head
  obtain ⟨r0, r1, f0, f1⟩ := HR.out.two
  have key : k < 1 ∨ (¬ k < 1 ∧ cnt < k) := by omega
  clear h hb
  rcases key with h1 | ⟨h1, h2⟩
  all_goals
    go_enter Try.func24, Try.ntmps24
    go_wp2
    obtain ⟨k0, k1, _, _⟩ := (Box.new w #[.int .i64 0, .int .i64 0] 24).two
    refine bodyPost_ret (v := .tuple #[.agg #[.int .i64 0, .int .i64 0], .int .i64 1]) ?_ rfl ⟨rfl, (Below.refl _ _).alloc (Nat.le_refl _) _⟩
    simp [results, Try.results24, go_sem, k0, k1]
end Go.Proofs.Ytaeodkpkgbjaeaa
