/- Parts of the walk of ScoreOrders. -/
import Derived.Test.YtiepfkhbebdkeaaDoorScoF
namespace Go.Proofs.YtiepfkhbebdkeaaDoor
open Go.RowKit
set_option linter.unusedVariables false
set_option linter.unusedSimpArgs false
set_option maxRecDepth 100000

set_option maxHeartbeats 4000000 in
theorem ord_less_q (p q : Int) (hp : I64 p) (hq : I64 q) (r s : Int) (hr : I64 r) (hs : I64 s) (t u : Int) (ht : I64 t) (hu : I64 u) (w : World) (hT : Tab w ∧ Ers w) (h1 : ScoOk p q) (h2 : ScoOk r s) (ho : oddC p q r s = -1) (hn : p = r) (hn2 : ¬ q = s) :
    Calls Tryd.prog 4 #[.agg #[.int .i64 p, .int .i64 q], .agg #[.int .i64 r, .int .i64 s], .agg #[.int .i64 t, .int .i64 u]] w fun e w' => e = .returned (.bool true) ∧ Below w.heap.size w w' := by
  subst hn
  have J := Lib.hid ((((Keeps.start w).alloc #[.int .i64 p, .int .i64 q] 23).alloc #[.int .i64 p, .int .i64 s] 23).alloc #[.int .i64 t, .int .i64 u] 23)
  have T := Lib.hid (((hT.1.alloc (.cells #[.int .i64 p, .int .i64 q] 23)).alloc (.cells #[.int .i64 p, .int .i64 s] 23)).alloc (.cells #[.int .i64 t, .int .i64 u] 23))
  have E := Lib.hid (((hT.2.alloc (.cells #[.int .i64 p, .int .i64 q] 23)).alloc (.cells #[.int .i64 p, .int .i64 s] 23)).alloc (.cells #[.int .i64 t, .int .i64 u] 23))
  have KL := Lib.hid (fun W hT hE => lives13 W hT hE)
  clear hT
  have ho2 : oddC p s p q = 1 := by have := oddC_neg p q p s; omega
  have K1 := Lib.hid (fun W => sco_cmp p q p s hp hq hr hs W)
  have K2 := Lib.hid (fun W => sco_cmp p s p q hr hs hp hq W)
  rw [← cpV_ok ⟨h1, h2⟩, ho] at K1
  rw [← cpV_ok ⟨h2, h1⟩, ho2] at K2
  have KO := Lib.hid (fun W => ref13_odder p q p s h1 h2 W)
  rw [ho] at KO
  have KI := Lib.hid (fun W => ref13_is p q W)
  rw [scoB_of h1] at KI
  have KI2 := Lib.hid (fun W => ref13_is p s W)
  rw [scoB_of h2] at KI2
  have K3 := Lib.hid (fun W => sco_cmp p s t u hr hs ht hu W)
  have K4 := Lib.hid (fun W => sco_cmp p q t u hp hq ht hu W)
  by_cases h3 : ScoOk t u
  · rw [← cpV_ok ⟨h2, h3⟩] at K3
    rw [← cpV_ok ⟨h1, h3⟩] at K4
    generalize oddC p s t u = k at *
    generalize oddC p q t u = x at *
    clear h1 h2 h3 hp hq hr hs ht hu ho ho2
    go_enter Tryd.func4, Tryd.ntmps4
    obtain ⟨c0, c1, _, _⟩ := J.out.head.two
    obtain ⟨b0, b1, _, _⟩ := J.out.tail.head.two
    obtain ⟨a0, a1, _, _⟩ := J.out.tail.tail.head.two
    simp only [alloc_size'] at b0 b1 c0 c1
    go_wp2_with fail
    refine (K1.out _).mono ?_
    rintro e w1 ⟨rfl, b⟩
    have J := Lib.hid (J.out.below b)
    have T := Lib.hid (T.out.below b)
    have E := Lib.hid (E.out.below b)
    clear b
    clear a0 a1 b0 b1 c0 c1
    obtain ⟨c0, c1, _, _⟩ := J.out.head.two
    obtain ⟨b0, b1, _, _⟩ := J.out.tail.head.two
    obtain ⟨a0, a1, _, _⟩ := J.out.tail.tail.head.two
    simp only [alloc_size'] at b0 b1 c0 c1
    go_wp2_with fail
    refine (K2.out _).mono ?_
    rintro e w2 ⟨rfl, b⟩
    have J := Lib.hid (J.out.below b)
    have T := Lib.hid (T.out.below b)
    have E := Lib.hid (E.out.below b)
    clear b
    clear a0 a1 b0 b1 c0 c1
    obtain ⟨c0, c1, _, _⟩ := J.out.head.two
    obtain ⟨b0, b1, _, _⟩ := J.out.tail.head.two
    obtain ⟨a0, a1, _, _⟩ := J.out.tail.tail.head.two
    simp only [alloc_size'] at b0 b1 c0 c1
    go_wp2_with fail
    refine (KI.out _).mono ?_
    rintro e w3 ⟨rfl, b⟩
    have J := Lib.hid (J.out.below b)
    have T := Lib.hid (T.out.below b)
    have E := Lib.hid (E.out.below b)
    clear b
    clear a0 a1 b0 b1 c0 c1
    obtain ⟨c0, c1, _, _⟩ := J.out.head.two
    obtain ⟨b0, b1, _, _⟩ := J.out.tail.head.two
    obtain ⟨a0, a1, _, _⟩ := J.out.tail.tail.head.two
    simp only [alloc_size'] at b0 b1 c0 c1
    go_wp2_with fail
    refine (KI2.out _).mono ?_
    rintro e w4 ⟨rfl, b⟩
    have J := Lib.hid (J.out.below b)
    have T := Lib.hid (T.out.below b)
    have E := Lib.hid (E.out.below b)
    clear b
    clear a0 a1 b0 b1 c0 c1
    obtain ⟨c0, c1, _, _⟩ := J.out.head.two
    obtain ⟨b0, b1, _, _⟩ := J.out.tail.head.two
    obtain ⟨a0, a1, _, _⟩ := J.out.tail.tail.head.two
    simp only [alloc_size'] at b0 b1 c0 c1
    go_wp2_with fail
    refine (KO.out _).mono ?_
    rintro e w5 ⟨rfl, b⟩
    have J := Lib.hid (J.out.below b)
    have T := Lib.hid (T.out.below b)
    have E := Lib.hid (E.out.below b)
    clear b
    clear a0 a1 b0 b1 c0 c1
    obtain ⟨c0, c1, _, _⟩ := J.out.head.two
    obtain ⟨b0, b1, _, _⟩ := J.out.tail.head.two
    obtain ⟨a0, a1, _, _⟩ := J.out.tail.tail.head.two
    simp only [alloc_size'] at b0 b1 c0 c1
    go_wp2_with fail
    refine (KL.out _ T.out E.out).mono ?_
    rintro e w6 ⟨rfl, b⟩
    have J := Lib.hid (J.out.below b)
    have T := Lib.hid (T.out.below b)
    have E := Lib.hid (E.out.below b)
    clear b
    clear a0 a1 b0 b1 c0 c1
    obtain ⟨c0, c1, _, _⟩ := J.out.head.two
    obtain ⟨b0, b1, _, _⟩ := J.out.tail.head.two
    obtain ⟨a0, a1, _, _⟩ := J.out.tail.tail.head.two
    simp only [alloc_size'] at b0 b1 c0 c1
    go_wp2_with fail
    refine (K3.out _).mono ?_
    rintro e w7 ⟨rfl, b⟩
    have J := Lib.hid (J.out.below b)
    have T := Lib.hid (T.out.below b)
    have E := Lib.hid (E.out.below b)
    clear b
    clear a0 a1 b0 b1 c0 c1
    obtain ⟨c0, c1, _, _⟩ := J.out.head.two
    obtain ⟨b0, b1, _, _⟩ := J.out.tail.head.two
    obtain ⟨a0, a1, _, _⟩ := J.out.tail.tail.head.two
    simp only [alloc_size'] at b0 b1 c0 c1
    go_wp2_with fail
    refine (K4.out _).mono ?_
    rintro e w8 ⟨rfl, b⟩
    have J := Lib.hid (J.out.below b)
    have T := Lib.hid (T.out.below b)
    have E := Lib.hid (E.out.below b)
    clear b
    clear a0 a1 b0 b1 c0 c1
    obtain ⟨c0, c1, _, _⟩ := J.out.head.two
    obtain ⟨b0, b1, _, _⟩ := J.out.tail.head.two
    obtain ⟨a0, a1, _, _⟩ := J.out.tail.tail.head.two
    simp only [alloc_size'] at b0 b1 c0 c1
    go_wp2
    go_ret
    exact ⟨rfl, J.out.2.1⟩
  · rw [← cpV_no (fun h => h3 h.2)] at K3
    rw [← cpV_no (fun h => h3 h.2)] at K4
    have KI3 := Lib.hid (fun W => ref13_is t u W)
    rw [scoB_no h3] at KI3
    clear h1 h2 h3 hp hq hr hs ht hu ho ho2
    go_enter Tryd.func4, Tryd.ntmps4
    obtain ⟨c0, c1, _, _⟩ := J.out.head.two
    obtain ⟨b0, b1, _, _⟩ := J.out.tail.head.two
    obtain ⟨a0, a1, _, _⟩ := J.out.tail.tail.head.two
    simp only [alloc_size'] at b0 b1 c0 c1
    go_wp2_with fail
    refine (K1.out _).mono ?_
    rintro e w1 ⟨rfl, b⟩
    have J := Lib.hid (J.out.below b)
    have T := Lib.hid (T.out.below b)
    have E := Lib.hid (E.out.below b)
    clear b
    clear a0 a1 b0 b1 c0 c1
    obtain ⟨c0, c1, _, _⟩ := J.out.head.two
    obtain ⟨b0, b1, _, _⟩ := J.out.tail.head.two
    obtain ⟨a0, a1, _, _⟩ := J.out.tail.tail.head.two
    simp only [alloc_size'] at b0 b1 c0 c1
    go_wp2_with fail
    refine (K2.out _).mono ?_
    rintro e w2 ⟨rfl, b⟩
    have J := Lib.hid (J.out.below b)
    have T := Lib.hid (T.out.below b)
    have E := Lib.hid (E.out.below b)
    clear b
    clear a0 a1 b0 b1 c0 c1
    obtain ⟨c0, c1, _, _⟩ := J.out.head.two
    obtain ⟨b0, b1, _, _⟩ := J.out.tail.head.two
    obtain ⟨a0, a1, _, _⟩ := J.out.tail.tail.head.two
    simp only [alloc_size'] at b0 b1 c0 c1
    go_wp2_with fail
    refine (KI.out _).mono ?_
    rintro e w3 ⟨rfl, b⟩
    have J := Lib.hid (J.out.below b)
    have T := Lib.hid (T.out.below b)
    have E := Lib.hid (E.out.below b)
    clear b
    clear a0 a1 b0 b1 c0 c1
    obtain ⟨c0, c1, _, _⟩ := J.out.head.two
    obtain ⟨b0, b1, _, _⟩ := J.out.tail.head.two
    obtain ⟨a0, a1, _, _⟩ := J.out.tail.tail.head.two
    simp only [alloc_size'] at b0 b1 c0 c1
    go_wp2_with fail
    refine (KI2.out _).mono ?_
    rintro e w4 ⟨rfl, b⟩
    have J := Lib.hid (J.out.below b)
    have T := Lib.hid (T.out.below b)
    have E := Lib.hid (E.out.below b)
    clear b
    clear a0 a1 b0 b1 c0 c1
    obtain ⟨c0, c1, _, _⟩ := J.out.head.two
    obtain ⟨b0, b1, _, _⟩ := J.out.tail.head.two
    obtain ⟨a0, a1, _, _⟩ := J.out.tail.tail.head.two
    simp only [alloc_size'] at b0 b1 c0 c1
    go_wp2_with fail
    refine (KO.out _).mono ?_
    rintro e w5 ⟨rfl, b⟩
    have J := Lib.hid (J.out.below b)
    have T := Lib.hid (T.out.below b)
    have E := Lib.hid (E.out.below b)
    clear b
    clear a0 a1 b0 b1 c0 c1
    obtain ⟨c0, c1, _, _⟩ := J.out.head.two
    obtain ⟨b0, b1, _, _⟩ := J.out.tail.head.two
    obtain ⟨a0, a1, _, _⟩ := J.out.tail.tail.head.two
    simp only [alloc_size'] at b0 b1 c0 c1
    go_wp2_with fail
    refine (KL.out _ T.out E.out).mono ?_
    rintro e w6 ⟨rfl, b⟩
    have J := Lib.hid (J.out.below b)
    have T := Lib.hid (T.out.below b)
    have E := Lib.hid (E.out.below b)
    clear b
    clear a0 a1 b0 b1 c0 c1
    obtain ⟨c0, c1, _, _⟩ := J.out.head.two
    obtain ⟨b0, b1, _, _⟩ := J.out.tail.head.two
    obtain ⟨a0, a1, _, _⟩ := J.out.tail.tail.head.two
    simp only [alloc_size'] at b0 b1 c0 c1
    go_wp2_with fail
    refine (K3.out _).mono ?_
    rintro e w7 ⟨rfl, b⟩
    have J := Lib.hid (J.out.below b)
    have T := Lib.hid (T.out.below b)
    have E := Lib.hid (E.out.below b)
    clear b
    clear a0 a1 b0 b1 c0 c1
    obtain ⟨c0, c1, _, _⟩ := J.out.head.two
    obtain ⟨b0, b1, _, _⟩ := J.out.tail.head.two
    obtain ⟨a0, a1, _, _⟩ := J.out.tail.tail.head.two
    simp only [alloc_size'] at b0 b1 c0 c1
    go_wp2_with fail
    refine (K4.out _).mono ?_
    rintro e w8 ⟨rfl, b⟩
    have J := Lib.hid (J.out.below b)
    have T := Lib.hid (T.out.below b)
    have E := Lib.hid (E.out.below b)
    clear b
    clear a0 a1 b0 b1 c0 c1
    obtain ⟨c0, c1, _, _⟩ := J.out.head.two
    obtain ⟨b0, b1, _, _⟩ := J.out.tail.head.two
    obtain ⟨a0, a1, _, _⟩ := J.out.tail.tail.head.two
    simp only [alloc_size'] at b0 b1 c0 c1
    go_wp2_with fail
    refine (KI3.out _).mono ?_
    rintro e w9 ⟨rfl, b⟩
    have J := Lib.hid (J.out.below b)
    have T := Lib.hid (T.out.below b)
    have E := Lib.hid (E.out.below b)
    clear b
    clear a0 a1 b0 b1 c0 c1
    obtain ⟨c0, c1, _, _⟩ := J.out.head.two
    obtain ⟨b0, b1, _, _⟩ := J.out.tail.head.two
    obtain ⟨a0, a1, _, _⟩ := J.out.tail.tail.head.two
    simp only [alloc_size'] at b0 b1 c0 c1
    go_wp2
    go_ret
    exact ⟨rfl, J.out.2.1⟩
end Go.Proofs.YtiepfkhbebdkeaaDoor
