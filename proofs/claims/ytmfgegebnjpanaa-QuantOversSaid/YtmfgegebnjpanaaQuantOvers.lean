/- Statement QuantOvers: whatever the input is, the Go function returns true and each argument reads as it did. No condition. -/
import Derived.Test.YtmfgegebnjpanaaRows
import Derived.Test.YtmfgegebnjpanaaQuaE
import Derived.Test.YtmfgegebnjpanaaVecT
import Derived.Test.YtmfgegebnjpanaaBase
import Derived.ProofKit
import Derived.OpenShut
namespace Go.Proofs.Ytmfgegebnjpanaa.quantOvers
open Go.ChangeShapes Go.WideShapes Go.ChangeAt Go.RowKit
set_option linter.unusedVariables false

theorem own : ownKnob Try.prog.godebug = none := by kernel_rfl
theorem laid : laidOutB Try.prog = true := by kernel_rfl

set_option maxRecDepth 100000 in
set_option maxHeartbeats 8000000 in
theorem walk (A : Option Addr) (l : List PQ) (ca : Nat) {w : World} (hA : LiesS w w.heap.size A l) (hI : okS l) (hlm : l.length ≤ 9223372036854775807) (hca : l.length ≤ ca) (hz : A = none → ca = 0) (a b : Int) (ha : I64 a) (hb : I64 b) (c d : Int) (hc : I64 c) (hd : I64 d) (_ : World) :
    Calls Try.prog 10 #[.slice A l.length ca, .agg #[.int .i64 a, .int .i64 b], .agg #[.int .i64 c, .int .i64 d]] w fun e w' => e = .returned (.bool true) ∧ Below w.heap.size w w' := by
  have J := Lib.hid (((Keeps.start w).alloc #[.int .i64 a, .int .i64 b] 32).alloc #[.int .i64 c, .int .i64 d] 32)
  obtain ⟨r0, r1, _, _⟩ := J.out.tail.head.two
  obtain ⟨z0, z1, _, _⟩ := J.out.head.two
  rw [alloc_size'] at z0 z1
  by_cases h1 : 100 < l.length
  · have h1' : (100 : Int) < (l.length : Int) := by omega
    have HB := Lib.hid J.out.2.1
    clear hA hI
    generalize l.length = N at *
    go_enter Try.func10, Try.ntmps10
    go_wp2_with fail
    refine (lives19 _).mono ?_
    rintro e wl ⟨rfl, bl⟩
    have HBL := Lib.hid (HB.out.trans (bl.mono HB.out.size))
    clear bl
    go_wp2
    go_ret
    exact ⟨rfl, HBL.out⟩
  · have h1' : ¬ (100 : Int) < (l.length : Int) := by omega
    have HA := Lib.hid (fun W (h : Below w.heap.size w W) => hA.up h)
    have K1 := Lib.hid (fun W => qua_over a b c d ha hb hc hd W)
    have K2 := Lib.hid (fun W (h : LiesS W W.heap.size A l) => qua_count A l ca c d W h hI (by omega) hc hd)
    have K3 := Lib.hid (fun W (h : LiesS W W.heap.size A l) => ref19_count A l ca c d W h hI (by omega))
    have K4 := Lib.hid (fun W (h : LiesS W W.heap.size A l) => qua_share A l ca c d W h hI (by omega) hc hd)
    have K5 := Lib.hid (fun W (h : LiesS W W.heap.size A l) => ref19_share A l ca c d W h hI (by omega))
    have K6 := Lib.hid (fun W => ref13_is a b W)
    have K7 := Lib.hid (fun W => ref13_is c d W)
    unfold ovV at K1
    unfold cnV at K2 K3
    unfold shV at K4 K5
    generalize cnN l c d = n at *
    generalize cnE l c d = ne at *
    generalize shP l c d = x at *
    generalize shQ l c d = y at *
    generalize shE l c d = se at *
    have q1 : (n != n) = false := by simp
    have q2 : (ne != ne) = false := by simp
    have q3 : (se != se) = false := by simp
    have q4 : (x == x) = true := by simp
    have q5 : (y == y) = true := by simp
    clear hA
    by_cases hg : ScoOk a b ∧ ScoOk c d
    · rw [scoB_of hg.1] at K6
      rw [scoB_of hg.2] at K7
      rw [(ov_ok hg).1, (ov_ok hg).2.2] at K1
      have K8 := Lib.hid (fun W => ref13_odder a b c d hg.1 hg.2 W)
      clear hg
      generalize oddC a b c d = o at *
      have HO : Hid (decide (0 ≤ o) = true ∨ (decide (0 ≤ o) = false ∧ o < 0)) := by
        by_cases h : 0 ≤ o
        · exact .inl (decide_eq_true h)
        · exact .inr ⟨decide_eq_false h, by omega⟩
      rcases HO.out with ho | ⟨ho, ho2⟩
      · have ho3 : 0 ≤ o := of_decide_eq_true ho
        rw [ho] at K1
        clear HO ho
        go_enter Try.func10, Try.ntmps10
        go_wp2_with fail
        refine (K1.out _).mono ?_
        rintro e w1 ⟨rfl, b⟩
        have J := Lib.hid (J.out.below b)
        clear b r0 r1 z0 z1
        obtain ⟨r0, r1, _, _⟩ := J.out.tail.head.two
        obtain ⟨z0, z1, _, _⟩ := J.out.head.two
        rw [alloc_size'] at z0 z1
        go_wp2_with fail
        refine (K2.out _ (HA.out _ J.out.2.1)).mono ?_
        rintro e w2 ⟨rfl, b⟩
        have J := Lib.hid (J.out.below b)
        clear b r0 r1 z0 z1
        obtain ⟨r0, r1, _, _⟩ := J.out.tail.head.two
        obtain ⟨z0, z1, _, _⟩ := J.out.head.two
        rw [alloc_size'] at z0 z1
        go_wp2_with fail
        refine (K3.out _ (HA.out _ J.out.2.1)).mono ?_
        rintro e w3 ⟨rfl, b⟩
        have J := Lib.hid (J.out.below b)
        clear b r0 r1 z0 z1
        obtain ⟨r0, r1, _, _⟩ := J.out.tail.head.two
        obtain ⟨z0, z1, _, _⟩ := J.out.head.two
        rw [alloc_size'] at z0 z1
        go_wp2_with fail
        refine (K4.out _ (HA.out _ J.out.2.1)).mono ?_
        rintro e w4 ⟨rfl, b⟩
        have b := b.trans (((Below.refl w4.heap.size w4).alloc (Nat.le_refl _) (.cells #[.int .i64 x, .int .i64 y] 83)).mono b.size)
        have HR4 := Lib.hid (Box.new w4 #[.int .i64 x, .int .i64 y] 83)
        have J := Lib.hid (J.out.below b)
        clear b r0 r1 z0 z1
        obtain ⟨r0, r1, _, _⟩ := J.out.tail.head.two
        obtain ⟨z0, z1, _, _⟩ := J.out.head.two
        rw [alloc_size'] at z0 z1
        go_wp2_with fail
        refine (K5.out _ (HA.out _ J.out.2.1)).mono ?_
        rintro e w5 ⟨rfl, b⟩
        have b := b.trans (((Below.refl w5.heap.size w5).alloc (Nat.le_refl _) (.cells #[.int .i64 x, .int .i64 y] 83)).mono b.size)
        have HR5 := Lib.hid (Box.new w5 #[.int .i64 x, .int .i64 y] 83)
        have HR4 := Lib.hid (HR4.out.below b HR4.out.lt)
        have J := Lib.hid (J.out.below b)
        clear b r0 r1 z0 z1
        obtain ⟨r0, r1, _, _⟩ := J.out.tail.head.two
        obtain ⟨z0, z1, _, _⟩ := J.out.head.two
        rw [alloc_size'] at z0 z1
        obtain ⟨u0, u1, _, _⟩ := HR4.out.two
        obtain ⟨t0, t1, _, _⟩ := HR5.out.two
        go_wp2_with fail
        refine (K6.out _).mono ?_
        rintro e w6 ⟨rfl, b⟩
        have J := Lib.hid (J.out.below b)
        clear b r0 r1 z0 z1
        obtain ⟨r0, r1, _, _⟩ := J.out.tail.head.two
        obtain ⟨z0, z1, _, _⟩ := J.out.head.two
        rw [alloc_size'] at z0 z1
        go_wp2_with fail
        refine (K7.out _).mono ?_
        rintro e w7 ⟨rfl, b⟩
        have J := Lib.hid (J.out.below b)
        clear b r0 r1 z0 z1
        obtain ⟨r0, r1, _, _⟩ := J.out.tail.head.two
        obtain ⟨z0, z1, _, _⟩ := J.out.head.two
        rw [alloc_size'] at z0 z1
        go_wp2_with fail
        refine (K8.out _).mono ?_
        rintro e w8 ⟨rfl, b⟩
        have J := Lib.hid (J.out.below b)
        clear b r0 r1 z0 z1
        obtain ⟨r0, r1, _, _⟩ := J.out.tail.head.two
        obtain ⟨z0, z1, _, _⟩ := J.out.head.two
        rw [alloc_size'] at z0 z1
        have HB := Lib.hid J.out.2.1
        go_wp2_with fail
        refine (lives19 _).mono ?_
        rintro e wl ⟨rfl, bl⟩
        have HBL := Lib.hid (HB.out.trans (bl.mono HB.out.size))
        clear bl
        go_wp2
        go_ret
        exact ⟨rfl, HBL.out⟩
      · rw [ho] at K1
        clear HO
        go_enter Try.func10, Try.ntmps10
        go_wp2_with fail
        refine (K1.out _).mono ?_
        rintro e w1 ⟨rfl, b⟩
        have J := Lib.hid (J.out.below b)
        clear b r0 r1 z0 z1
        obtain ⟨r0, r1, _, _⟩ := J.out.tail.head.two
        obtain ⟨z0, z1, _, _⟩ := J.out.head.two
        rw [alloc_size'] at z0 z1
        go_wp2_with fail
        refine (K2.out _ (HA.out _ J.out.2.1)).mono ?_
        rintro e w2 ⟨rfl, b⟩
        have J := Lib.hid (J.out.below b)
        clear b r0 r1 z0 z1
        obtain ⟨r0, r1, _, _⟩ := J.out.tail.head.two
        obtain ⟨z0, z1, _, _⟩ := J.out.head.two
        rw [alloc_size'] at z0 z1
        go_wp2_with fail
        refine (K3.out _ (HA.out _ J.out.2.1)).mono ?_
        rintro e w3 ⟨rfl, b⟩
        have J := Lib.hid (J.out.below b)
        clear b r0 r1 z0 z1
        obtain ⟨r0, r1, _, _⟩ := J.out.tail.head.two
        obtain ⟨z0, z1, _, _⟩ := J.out.head.two
        rw [alloc_size'] at z0 z1
        go_wp2_with fail
        refine (K4.out _ (HA.out _ J.out.2.1)).mono ?_
        rintro e w4 ⟨rfl, b⟩
        have b := b.trans (((Below.refl w4.heap.size w4).alloc (Nat.le_refl _) (.cells #[.int .i64 x, .int .i64 y] 83)).mono b.size)
        have HR4 := Lib.hid (Box.new w4 #[.int .i64 x, .int .i64 y] 83)
        have J := Lib.hid (J.out.below b)
        clear b r0 r1 z0 z1
        obtain ⟨r0, r1, _, _⟩ := J.out.tail.head.two
        obtain ⟨z0, z1, _, _⟩ := J.out.head.two
        rw [alloc_size'] at z0 z1
        go_wp2_with fail
        refine (K5.out _ (HA.out _ J.out.2.1)).mono ?_
        rintro e w5 ⟨rfl, b⟩
        have b := b.trans (((Below.refl w5.heap.size w5).alloc (Nat.le_refl _) (.cells #[.int .i64 x, .int .i64 y] 83)).mono b.size)
        have HR5 := Lib.hid (Box.new w5 #[.int .i64 x, .int .i64 y] 83)
        have HR4 := Lib.hid (HR4.out.below b HR4.out.lt)
        have J := Lib.hid (J.out.below b)
        clear b r0 r1 z0 z1
        obtain ⟨r0, r1, _, _⟩ := J.out.tail.head.two
        obtain ⟨z0, z1, _, _⟩ := J.out.head.two
        rw [alloc_size'] at z0 z1
        obtain ⟨u0, u1, _, _⟩ := HR4.out.two
        obtain ⟨t0, t1, _, _⟩ := HR5.out.two
        go_wp2_with fail
        refine (K6.out _).mono ?_
        rintro e w6 ⟨rfl, b⟩
        have J := Lib.hid (J.out.below b)
        clear b r0 r1 z0 z1
        obtain ⟨r0, r1, _, _⟩ := J.out.tail.head.two
        obtain ⟨z0, z1, _, _⟩ := J.out.head.two
        rw [alloc_size'] at z0 z1
        go_wp2_with fail
        refine (K7.out _).mono ?_
        rintro e w7 ⟨rfl, b⟩
        have J := Lib.hid (J.out.below b)
        clear b r0 r1 z0 z1
        obtain ⟨r0, r1, _, _⟩ := J.out.tail.head.two
        obtain ⟨z0, z1, _, _⟩ := J.out.head.two
        rw [alloc_size'] at z0 z1
        go_wp2_with fail
        refine (K8.out _).mono ?_
        rintro e w8 ⟨rfl, b⟩
        have J := Lib.hid (J.out.below b)
        clear b r0 r1 z0 z1
        obtain ⟨r0, r1, _, _⟩ := J.out.tail.head.two
        obtain ⟨z0, z1, _, _⟩ := J.out.head.two
        rw [alloc_size'] at z0 z1
        have HB := Lib.hid J.out.2.1
        go_wp2_with fail
        refine (lives19 _).mono ?_
        rintro e wl ⟨rfl, bl⟩
        have HBL := Lib.hid (HB.out.trans (bl.mono HB.out.size))
        clear bl
        go_wp2
        go_ret
        exact ⟨rfl, HBL.out⟩
    · rw [(ov_no hg).1, (ov_no hg).2.2] at K1
      by_cases h2 : ScoOk a b
      · rw [scoB_of h2] at K6
        rw [scoB_no fun h => hg ⟨h2, h⟩] at K7
        clear hg h2
        go_enter Try.func10, Try.ntmps10
        go_wp2_with fail
        refine (K1.out _).mono ?_
        rintro e w1 ⟨rfl, b⟩
        have J := Lib.hid (J.out.below b)
        clear b r0 r1 z0 z1
        obtain ⟨r0, r1, _, _⟩ := J.out.tail.head.two
        obtain ⟨z0, z1, _, _⟩ := J.out.head.two
        rw [alloc_size'] at z0 z1
        go_wp2_with fail
        refine (K2.out _ (HA.out _ J.out.2.1)).mono ?_
        rintro e w2 ⟨rfl, b⟩
        have J := Lib.hid (J.out.below b)
        clear b r0 r1 z0 z1
        obtain ⟨r0, r1, _, _⟩ := J.out.tail.head.two
        obtain ⟨z0, z1, _, _⟩ := J.out.head.two
        rw [alloc_size'] at z0 z1
        go_wp2_with fail
        refine (K3.out _ (HA.out _ J.out.2.1)).mono ?_
        rintro e w3 ⟨rfl, b⟩
        have J := Lib.hid (J.out.below b)
        clear b r0 r1 z0 z1
        obtain ⟨r0, r1, _, _⟩ := J.out.tail.head.two
        obtain ⟨z0, z1, _, _⟩ := J.out.head.two
        rw [alloc_size'] at z0 z1
        go_wp2_with fail
        refine (K4.out _ (HA.out _ J.out.2.1)).mono ?_
        rintro e w4 ⟨rfl, b⟩
        have b := b.trans (((Below.refl w4.heap.size w4).alloc (Nat.le_refl _) (.cells #[.int .i64 x, .int .i64 y] 83)).mono b.size)
        have HR4 := Lib.hid (Box.new w4 #[.int .i64 x, .int .i64 y] 83)
        have J := Lib.hid (J.out.below b)
        clear b r0 r1 z0 z1
        obtain ⟨r0, r1, _, _⟩ := J.out.tail.head.two
        obtain ⟨z0, z1, _, _⟩ := J.out.head.two
        rw [alloc_size'] at z0 z1
        go_wp2_with fail
        refine (K5.out _ (HA.out _ J.out.2.1)).mono ?_
        rintro e w5 ⟨rfl, b⟩
        have b := b.trans (((Below.refl w5.heap.size w5).alloc (Nat.le_refl _) (.cells #[.int .i64 x, .int .i64 y] 83)).mono b.size)
        have HR5 := Lib.hid (Box.new w5 #[.int .i64 x, .int .i64 y] 83)
        have HR4 := Lib.hid (HR4.out.below b HR4.out.lt)
        have J := Lib.hid (J.out.below b)
        clear b r0 r1 z0 z1
        obtain ⟨r0, r1, _, _⟩ := J.out.tail.head.two
        obtain ⟨z0, z1, _, _⟩ := J.out.head.two
        rw [alloc_size'] at z0 z1
        obtain ⟨u0, u1, _, _⟩ := HR4.out.two
        obtain ⟨t0, t1, _, _⟩ := HR5.out.two
        go_wp2_with fail
        refine (K6.out _).mono ?_
        rintro e w6 ⟨rfl, b⟩
        have J := Lib.hid (J.out.below b)
        clear b r0 r1 z0 z1
        obtain ⟨r0, r1, _, _⟩ := J.out.tail.head.two
        obtain ⟨z0, z1, _, _⟩ := J.out.head.two
        rw [alloc_size'] at z0 z1
        go_wp2_with fail
        refine (K7.out _).mono ?_
        rintro e w7 ⟨rfl, b⟩
        have J := Lib.hid (J.out.below b)
        clear b r0 r1 z0 z1
        obtain ⟨r0, r1, _, _⟩ := J.out.tail.head.two
        obtain ⟨z0, z1, _, _⟩ := J.out.head.two
        rw [alloc_size'] at z0 z1
        have HB := Lib.hid J.out.2.1
        go_wp2_with fail
        refine (lives19 _).mono ?_
        rintro e wl ⟨rfl, bl⟩
        have HBL := Lib.hid (HB.out.trans (bl.mono HB.out.size))
        clear bl
        go_wp2
        go_ret
        exact ⟨rfl, HBL.out⟩
      · rw [scoB_no h2] at K6
        clear hg h2 K7
        go_enter Try.func10, Try.ntmps10
        go_wp2_with fail
        refine (K1.out _).mono ?_
        rintro e w1 ⟨rfl, b⟩
        have J := Lib.hid (J.out.below b)
        clear b r0 r1 z0 z1
        obtain ⟨r0, r1, _, _⟩ := J.out.tail.head.two
        obtain ⟨z0, z1, _, _⟩ := J.out.head.two
        rw [alloc_size'] at z0 z1
        go_wp2_with fail
        refine (K2.out _ (HA.out _ J.out.2.1)).mono ?_
        rintro e w2 ⟨rfl, b⟩
        have J := Lib.hid (J.out.below b)
        clear b r0 r1 z0 z1
        obtain ⟨r0, r1, _, _⟩ := J.out.tail.head.two
        obtain ⟨z0, z1, _, _⟩ := J.out.head.two
        rw [alloc_size'] at z0 z1
        go_wp2_with fail
        refine (K3.out _ (HA.out _ J.out.2.1)).mono ?_
        rintro e w3 ⟨rfl, b⟩
        have J := Lib.hid (J.out.below b)
        clear b r0 r1 z0 z1
        obtain ⟨r0, r1, _, _⟩ := J.out.tail.head.two
        obtain ⟨z0, z1, _, _⟩ := J.out.head.two
        rw [alloc_size'] at z0 z1
        go_wp2_with fail
        refine (K4.out _ (HA.out _ J.out.2.1)).mono ?_
        rintro e w4 ⟨rfl, b⟩
        have b := b.trans (((Below.refl w4.heap.size w4).alloc (Nat.le_refl _) (.cells #[.int .i64 x, .int .i64 y] 83)).mono b.size)
        have HR4 := Lib.hid (Box.new w4 #[.int .i64 x, .int .i64 y] 83)
        have J := Lib.hid (J.out.below b)
        clear b r0 r1 z0 z1
        obtain ⟨r0, r1, _, _⟩ := J.out.tail.head.two
        obtain ⟨z0, z1, _, _⟩ := J.out.head.two
        rw [alloc_size'] at z0 z1
        go_wp2_with fail
        refine (K5.out _ (HA.out _ J.out.2.1)).mono ?_
        rintro e w5 ⟨rfl, b⟩
        have b := b.trans (((Below.refl w5.heap.size w5).alloc (Nat.le_refl _) (.cells #[.int .i64 x, .int .i64 y] 83)).mono b.size)
        have HR5 := Lib.hid (Box.new w5 #[.int .i64 x, .int .i64 y] 83)
        have HR4 := Lib.hid (HR4.out.below b HR4.out.lt)
        have J := Lib.hid (J.out.below b)
        clear b r0 r1 z0 z1
        obtain ⟨r0, r1, _, _⟩ := J.out.tail.head.two
        obtain ⟨z0, z1, _, _⟩ := J.out.head.two
        rw [alloc_size'] at z0 z1
        obtain ⟨u0, u1, _, _⟩ := HR4.out.two
        obtain ⟨t0, t1, _, _⟩ := HR5.out.two
        go_wp2_with fail
        refine (K6.out _).mono ?_
        rintro e w6 ⟨rfl, b⟩
        have J := Lib.hid (J.out.below b)
        clear b r0 r1 z0 z1
        obtain ⟨r0, r1, _, _⟩ := J.out.tail.head.two
        obtain ⟨z0, z1, _, _⟩ := J.out.head.two
        rw [alloc_size'] at z0 z1
        have HB := Lib.hid J.out.2.1
        go_wp2_with fail
        refine (lives19 _).mono ?_
        rintro e wl ⟨rfl, bl⟩
        have HBL := Lib.hid (HB.out.trans (bl.mono HB.out.size))
        clear bl
        go_wp2
        go_ret
        exact ⟨rfl, HBL.out⟩

set_option maxRecDepth 100000 in
theorem lifted (os : Os) (started : os.Started) (H : Type) (enc : TypeId × Value → H) :
    ReturnsInHanded {} Try.checked os 10 .any (Rows.quantOversSpec.pre6 enc Try.prog Try.f10 Rows.quantOversRow.domain false) (Rows.quantOversSpec.post enc Try.prog Try.f10 false true false false) := by
  refine returnsInHanded_of_change (C := Try.checked) own started (by kernel_rfl) Try.func10
    (ChangeSpec.witness6 (enc := enc) (C := Try.checked) false ⟨#[], #[.slice none 0 0, .agg #[.int .i64 0, .int .i64 0], .agg #[.int .i64 0, .int .i64 0]], []⟩ 8 (by kernel_rfl) (by kernel_rfl) (by kernel_rfl) (by kernel_rfl)) ?_
  intro W base args ds gs before hval0 hW hcnd _
  have hval : ∀ (j : Nat) t v, Try.f10.params[j]? = some t → args[j]? = some v → Value.okWide Try.prog W .any base t v := hval0
  have hW' := hW
  obtain ⟨p, q, hA0, hV, rfl, hfz, hnd⟩ := hW
  obtain ⟨rfl, rfl⟩ := trodVars_none hV
  have hA : DataW.TrodAll enc Try.prog W 0 (fun _ => true) true Try.f10.params.toList args.toList ds p := hA0
  rw [Try.params10] at hA hval
  obtain ⟨v0, vs0, d0, ds0, p0, q0, hargs, rfl, rfl, h0, r0⟩ := trodAll_cons hA
  obtain ⟨v1, vs1, d1, ds1, p1, q1, rfl, rfl, rfl, h1, r1⟩ := trodAll_cons r0
  obtain ⟨v2, vs2, d2, ds2, p2, q2, rfl, rfl, rfl, h2, r2⟩ := trodAll_cons r1
  obtain ⟨rfl, rfl, rfl⟩ := trodAll_nil r2
  obtain rfl : args = #[v0, v1, v2] := by cases args; simp_all
  obtain ⟨A0, l0, c0, rfl, L0, I0, M0, N0, Z0⟩ := open_scores Try.underlying56 Try.underlying32 (by kernel_rfl) rfl (by kernel_rfl) (Prod.ext Try.underlying3 Try.underlying3) (hval 0 56 v0 rfl rfl) h0
  obtain ⟨a1, b1, rfl, w1, z1⟩ := open_two Try.underlying32 Try.underlying3 Try.underlying3 (by kernel_rfl) (by kernel_rfl) (hval 1 32 v1 rfl rfl) h1
  obtain ⟨a2, b2, rfl, w2, z2⟩ := open_two Try.underlying32 Try.underlying3 Try.underlying3 (by kernel_rfl) (by kernel_rfl) (hval 2 32 v2 rfl rfl) h2
  refine (walk A0 l0 c0 L0 I0 M0 N0 Z0 a1 b1 (i64_of_wf w1) (i64_of_wf z1) a2 b2 (i64_of_wf w2) (i64_of_wf z2) W).mono fun e W' ⟨he, hg⟩ => ?_
  subst he
  exact ⟨_, rfl, law_post laid (by rw [Try.params10]; exact (by decide +kernel)) rfl (by kernel_rfl) Try.underlying4 rfl hW' hg⟩

theorem over : Rows.quantOversRow.holds Try.pinned (OpenSpec.ofChange Rows.quantOversSpec) :=
  OpenClaim.holds_of_wide 10 Try.f10 rfl rfl rfl rfl rfl rfl rfl ⟨rfl, rfl, rfl, rfl, rfl⟩ rfl rfl rfl rfl rfl (by kernel_rfl) Try.func10 (by kernel_rfl)
    (of_decide_eq_true (by kernel_rfl)) (by unfold Func.isWrapper; first | (rw [if_pos (by decide +kernel)]; kernel_rfl) | (rw [if_neg (by decide +kernel)]; exact ⟨rfl, rfl⟩))
    (fun os started H enc _ => lifted os started H enc)
theorem proved : Rows.QuantOversSaid := over
end Go.Proofs.Ytmfgegebnjpanaa.quantOvers
