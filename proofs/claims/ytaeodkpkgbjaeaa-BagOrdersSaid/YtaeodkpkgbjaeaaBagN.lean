/- Layer 18 (bag): Rank. -/
import Derived.Test.YtaeodkpkgbjaeaaBagK
namespace Go.Proofs.Ytaeodkpkgbjaeaa
open Go.RowKit
set_option linter.unusedVariables false
set_option linter.unusedSimpArgs false

theorem LiesS.lift {w : World} {B B' : Nat} {A : Option Addr} {l : List PQ} (h : LiesS w B A l) (hB : B ≤ B') : LiesS w B' A l := fun h0 => by
  obtain ⟨ad, e, hb, hc⟩ := h h0
  exact ⟨ad, e, Nat.lt_of_lt_of_le hb hB, hc⟩
theorem LiesB.up {w : World} {B B' gB : Nat} {bs : List Blk} (h : LiesB w B gB bs) (hB : B ≤ B') : LiesB w B' gB bs :=
  ⟨Nat.lt_of_lt_of_le h.lt hB, h.hd, fun i hi => (h.sc i hi).lift hB⟩
/-- upTo, told by what is not told of -/
theorem bag_upto_n (gB c k B : Nat) (caps : Array Value) (Q : PQ → Bool) (bs : List Blk) (w : World) (eg : ∀ args w, (callFunc k args).run Try.prog w = .ok (.enter k args) w) (hB : B ≤ w.heap.size)
    (hL : LiesB w B gB bs) (hO : OkB bs) (hc : bs.length ≤ c) (hT : Tells k caps Q B w) (hM : MonoQ Q (flat bs)) :
    Calls Try.prog 86 #[.slice (some ⟨gB, 0, none⟩) bs.length c, .func (.func k) #[] caps] w fun e w' => e = .returned (.int .i64 (((flat bs).countP fun x => !Q x : Nat) : Int)) ∧ Below w.heap.size w w' := by
  refine (bag_upto gB c k B caps Q bs w eg hB hL hO hc hT (hM.m1 hO) hM.m2).mono ?_
  rintro e w' ⟨d, r, rfl, hd, hr, F1, T1, F2, T2, hb⟩
  rw [(CutQ.of hM hO hd hr F1 T1 F2 T2).count]
  exact ⟨rfl, hb⟩
set_option maxRecDepth 100000 in
set_option maxHeartbeats 4000000 in
theorem bag_rank (g gB c : Nat) (cnt p q : Int) (bs : List Blk) (w : World) (hp : I64 p) (hq : I64 q) (hb : Box w g #[.slice (some ⟨gB, 0, none⟩) bs.length c, .int .i64 cnt] 126) (hL : LiesB w w.heap.size gB bs) (hO : OkB bs) (hc : bs.length ≤ c)
    (hU : UpS (flat bs)) (hn : (flat bs).length ≤ 100000) (hok : okP (p, q)) :
    Calls Try.prog 22 #[.pointer (some ⟨g, 0, none⟩), .agg #[.int .i64 p, .int .i64 q]] w fun e w' => e = .returned (.tuple #[.int .i64 (lessN (flat bs) (p, q) : Nat), .int .i64 (sameN (flat bs) (p, q) : Nat), .int .i64 0]) ∧ Below w.heap.size w w' := by
  have J0 := Lib.hid ((Keeps.start w).alloc #[.int .i64 p, .int .i64 q] 24)
  obtain ⟨s0, s1, _, _⟩ := J0.out.head.two
  have K1 := Lib.hid (fun W => bag_check (some ⟨g, 0, none⟩) p q hp hq W)
  have hsc : bcE p q = 0 := by unfold bcE scoB; rw [if_pos (by exact decide_eq_true hok)]
  rw [if_neg (by simp), hsc] at K1
  have HB := Lib.hid hb
  have HL := Lib.hid hL
  have H0 := Lib.hid (fun x (hx : x = (p, q)) => hx)
  go_enter Try.func22, Try.ntmps22
  go_wp2_with fail
  refine (K1.out _).mono ?_
  rintro e w1 ⟨rfl, b1⟩
  have J1 := Lib.hid (J0.out.below b1)
  obtain ⟨s0, s1, _, _⟩ := J1.out.head.two
  clear b1
  go_wp2_with fail
  refine (bag_beyond p q w1).mono ?_
  rintro e w2 ⟨rfl, rfl⟩
  have J2 := Lib.hid ((J1.out.alloc #[.int .i64 p, .int .i64 q] 24).alloc #[.nilFunc] 44)
  have m0 := (J2.out.head.cell 0).trans rfl
  have m1 := J2.out.head.free 0
  simp only [alloc_size'] at m0 m1
  have hst : (store ⟨w1.heap.size + 1, 0, none⟩ (.func (.func 145) #[] #[.pointer (some ⟨w1.heap.size, 0, none⟩)])).run Try.prog ((w1.alloc (.cells #[.int .i64 p, .int .i64 q] 24)).alloc (.cells #[.nilFunc] 44)) = .ok () (((w1.alloc (.cells #[.int .i64 p, .int .i64 q] 24)).alloc (.cells #[.nilFunc] 44)).setCell ⟨w1.heap.size + 1, 0, none⟩ (.func (.func 145) #[] #[.pointer (some ⟨w1.heap.size, 0, none⟩)])) := by
    rw [run_store _ _ _ _ _ rfl, m0]
    simp [m1]
  have J3 := Lib.hid ((J1.out.alloc #[.int .i64 p, .int .i64 q] 24).alloc #[.func (.func 145) #[] #[.pointer (some ⟨w1.heap.size, 0, none⟩)]] 44)
  have x0 := ((HB.out.below J3.out.2.1 HB.out.lt).cell 0).trans rfl
  have hsz : Hid (w.heap.size < w1.heap.size) := J1.out.head.lt
  have T1 : Hid (Tells 87 #[.pointer (some ⟨w.heap.size, 0, none⟩), .pointer (some ⟨w1.heap.size + 1, 0, none⟩)] (upB (p, q)) (w1.heap.size + 2) ((w1.alloc (.cells #[.int .i64 p, .int .i64 q] 24)).alloc (.cells #[.func (.func 145) #[] #[.pointer (some ⟨w1.heap.size, 0, none⟩)]] 44))) := fun a b ha hb wr hbw => by
    have hJ := J3.out.below (by simp only [alloc_size']; exact hbw)
    exact bag_rank1 a b p q ha hb hp hq w.heap.size (w1.heap.size + 1) w1.heap.size wr hJ.tail.tail.head (by have := hJ.head; simpa using this) hJ.tail.head
  have T2 : Hid (∀ W : World, Below (w1.heap.size + 2) ((w1.alloc (.cells #[.int .i64 p, .int .i64 q] 24)).alloc (.cells #[.func (.func 145) #[] #[.pointer (some ⟨w1.heap.size, 0, none⟩)]] 44)) W → Tells 145 #[.pointer (some ⟨w1.heap.size, 0, none⟩)] (fun x => byB x.1 x.2 p q) (w1.heap.size + 2) W) := fun W hbw => by
    have hJ := J3.out.below (by simp only [alloc_size']; exact hbw)
    exact bag_tells p q hp hq w1.heap.size _ W hJ.tail.head (by omega)
  have HS := Lib.hid (fun W (hbw : Below (w1.heap.size + 2) ((w1.alloc (.cells #[.int .i64 p, .int .i64 q] 24)).alloc (.cells #[.func (.func 145) #[] #[.pointer (some ⟨w1.heap.size, 0, none⟩)]] 44)) W) => J3.out.below (by simp only [alloc_size']; exact hbw))
  generalize hW2 : (w1.alloc (.cells #[.int .i64 p, .int .i64 q] 24)).alloc (.cells #[.func (.func 145) #[] #[.pointer (some ⟨w1.heap.size, 0, none⟩)]] 44) = W2 at T1 T2 HS
  have hs2 := Lib.hid (show W2.heap.size = w1.heap.size + 2 by rw [← hW2]; simp)
  have HW2 := Lib.hid hW2
  rw [← hs2.out] at T1 T2 HS
  have KU : Hid (Calls Try.prog 86 #[.slice (some ⟨gB, 0, none⟩) bs.length c, .func (.func 87) #[] #[.pointer (some ⟨w.heap.size, 0, none⟩), .pointer (some ⟨w1.heap.size + 1, 0, none⟩)]] W2 fun e w' => e = .returned (.int .i64 (lessN (flat bs) (p, q) : Nat)) ∧ Below W2.heap.size W2 w') := by
    have hJ := HS.out W2 (Below.refl _ _)
    have hl := (HL.out.below hJ.2.1).up hJ.2.1.size
    exact (bag_upto_n gB c 87 W2.heap.size _ (upB (p, q)) bs W2 (enters_of Try.func87 (by kernel_rfl) rfl) (Nat.le_refl _) hl hO hc T1.out (hU.mono1 hok)).mono (by rintro e w' ⟨rfl, hb⟩; exact ⟨by rw [hU.less hok], hb⟩)
  have KV : Hid (∀ W : World, Below W2.heap.size W2 W → Calls Try.prog 86 #[.slice (some ⟨gB, 0, none⟩) bs.length c, .func (.func 145) #[] #[.pointer (some ⟨w1.heap.size, 0, none⟩)]] W fun e w' => e = .returned (.int .i64 ((lessN (flat bs) (p, q) + sameN (flat bs) (p, q) : Nat) : Int)) ∧ (w'.cell? ⟨g, 0, none⟩ = some (.slice (some ⟨gB, 0, none⟩) bs.length c) ∧ w'.cell? ⟨w1.heap.size + 1, 0, none⟩ = some (.func (.func 145) #[] #[.pointer (some ⟨w1.heap.size, 0, none⟩)])) ∧ Hid (Below w.heap.size w w')) := fun W hbW => by
    have hJ := HS.out W hbW
    have hl := (HL.out.below hJ.2.1).up hJ.2.1.size
    have ht := T2.out W hbW
    have ht' : Tells 145 #[.pointer (some ⟨w1.heap.size, 0, none⟩)] (fun x => byB x.1 x.2 p q) W.heap.size W := fun a b ha hb wr hbw => ht a b ha hb wr (hbw.mono hbW.size)
    refine (bag_upto_n gB c 145 W.heap.size _ (fun x => byB x.1 x.2 p q) bs W (enters_of Try.func145 (by kernel_rfl) rfl) (Nat.le_refl _) hl hO hc ht' (hU.mono2 hok)).mono ?_
    rintro e w' ⟨rfl, hb⟩
    have hJ' := HS.out w' (hbW.trans (hb.mono hbW.size))
    refine ⟨by rw [hU.both hok], ⟨((HB.out.below hJ'.2.1 HB.out.lt).cell 0).trans rfl, ?_⟩, hJ'.2.1⟩
    have := (hJ'.head.cell 0).trans rfl
    simpa using this
  have HX : Hid (∀ W : World, Below W2.heap.size W2 W → W.cell? ⟨g, 0, none⟩ = some (.slice (some ⟨gB, 0, none⟩) bs.length c) ∧ W.cell? ⟨w1.heap.size + 1, 0, none⟩ = some (.func (.func 145) #[] #[.pointer (some ⟨w1.heap.size, 0, none⟩)])) := fun W hbW => by
    have hJ' := HS.out W hbW
    refine ⟨((HB.out.below hJ'.2.1 HB.out.lt).cell 0).trans rfl, ?_⟩
    have := (hJ'.head.cell 0).trans rfl
    simpa using this
  have HLE : Hid (lessN (flat bs) (p, q) + sameN (flat bs) (p, q) ≤ 100000) := by
    show _ ≤ _
    rw [← hU.both hok]; exact Nat.le_trans List.countP_le_length hn
  clear T1 T2 HS J3 J2 J1 J0 HL hO hc hU hL hb H0
  generalize hN : bs.length = N at *
  generalize he1 : lessN (flat bs) (p, q) = n1 at *
  generalize he2 : sameN (flat bs) (p, q) = n2 at *
  have E1 := Lib.hid he1
  have E2 := Lib.hid he2
  clear he1 he2
  have hn12 : n1 + n2 ≤ 100000 := HLE.out
  clear hW2
  go_wp2_with fail
  rw [HW2.out]
  refine KU.out.mono ?_
  rintro e w2 ⟨rfl, b2⟩
  obtain ⟨y0, y1⟩ := HX.out w2 b2
  have HB2 := Lib.hid b2
  clear b2 x0 m0 m1 hst s0 s1 HX
  go_wp2
  go_region_held3 (fun w3 => w3.cell? ⟨g, 0, none⟩ = some (.slice (some ⟨gB, 0, none⟩) N c) ∧ w3.cell? ⟨w1.heap.size + 1, 0, none⟩ = some (.func (.func 145) #[] #[.pointer (some ⟨w1.heap.size, 0, none⟩)])) (go_keep)
    (first | (go_at_call 86; refine Calls.mono (KV.out _ ?_) ?_; (first | exact HB2.out | exact HB2.out.drew | exact below_drewN HB2.out _); rintro e w3 ⟨rfl, ⟨y0, y1⟩, HR⟩))
  go_wp2
  refine bodyPost_ret (v := .tuple #[.int .i64 (n1 : Nat), .int .i64 (n2 : Nat), .int .i64 0]) ?_ rfl ⟨by rw [E1.out, E2.out], HR.out⟩
  have hw : IntKind.i64.wrap ((n1 : Int) + (n2 : Int) - (n1 : Int)) = (n2 : Int) := by rw [IntKind.wrap_i64]; omega
  simp [hw, results, Try.results22, go_sem]
end Go.Proofs.Ytaeodkpkgbjaeaa
