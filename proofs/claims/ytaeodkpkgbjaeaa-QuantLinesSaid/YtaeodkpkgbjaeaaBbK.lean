/- Layer 19 (quant): Of a bag. -/
import Derived.Test.YtaeodkpkgbjaeaaBgE
import Derived.Test.YtaeodkpkgbjaeaaQuaE
namespace Go.Proofs.Ytaeodkpkgbjaeaa
open Go.RowKit
set_option linter.unusedVariables false
set_option linter.unusedSimpArgs false

set_option maxRecDepth 100000 in
set_option maxHeartbeats 4000000 in
theorem qua_of (w0 : World) (g : Nat) (bx : List (Nat × Array Value)) (l L : List PQ) (p d : Int) (W : World) (h : LvS w0 g bx L W) (hlen : L.length = l.length) (ha : allS l = true) :
    Calls Try.prog 33 #[.pointer (some ⟨g, 0, none⟩), .int .i64 p, .int .i64 d] W fun e w' => e = .returned (lnV l L p d) ∧ Hid (LvS w0 g bx L w') := by
  have HH := Lib.hid h
  have H0 := Lib.hid (h.below ((Below.refl W.heap.size W).alloc (Nat.le_refl _) (.cells #[.int .i64 0, .int .i64 0] 24)))
  have HR := Lib.hid (Box.new W #[.int .i64 0, .int .i64 0] 24)
  obtain ⟨r0, r1, r2, r3⟩ := HR.out.two
  have KL := Lib.hid (lvx_len w0 g bx L _ H0.out)
  rw [hlen] at KL
  have KI := Lib.hid (fun V => qua_index (l.length : Nat) p d V)
  by_cases hx : IdxOk (l.length : Nat) p d
  · obtain ⟨e1, e2⟩ := ln_ok (s := L) hx ha
    obtain ⟨k1, k2, -, -⟩ := idN_bd hx
    obtain ⟨K, hK⟩ : ∃ K : Nat, idN (l.length : Nat) p d = K := ⟨(idN (l.length : Nat) p d).toNat, by omega⟩
    rw [hK] at e1 k1 k2
    have hE : idE (l.length : Nat) p d = 0 := by unfold idE; rw [if_pos hx]
    unfold lnV
    rw [e1, e2, Int.toNat_natCast]
    unfold idV at KI
    rw [hK, hE] at KI
    have KK := Lib.hid (lvx_kth w0 g bx L (K - 1) (K : Int) (L.getD (K - 1) pq0).1 (L.getD (K - 1) pq0).2 (by omega) (by omega) rfl _ H0.out)
    clear e1 e2 hx hK hE h
    generalize (L.getD (K - 1) pq0).1 = a at *
    generalize (L.getD (K - 1) pq0).2 = b at *
    generalize l.length = n at *
    go_enter Try.func33, Try.ntmps33
    go_wp2_with fail
    refine KL.out.mono ?_
    rintro e w1 ⟨rfl, rfl⟩
    go_wp2_with fail
    refine (KI.out _).mono ?_
    rintro e w2 ⟨rfl, rfl⟩
    go_wp2_with fail
    refine KK.out.mono ?_
    rintro e w3 ⟨rfl, H3, HB3⟩
    have HR3 := Lib.hid (HR.out.below HB3.out HR.out.lt)
    clear r0 r1 r2 r3
    obtain ⟨r0, r1, r2, r3⟩ := HR3.out.two
    have Z := HR3.out.set2 (.int .i64 a) (.int .i64 b)
    obtain ⟨k0, k1, _, _⟩ := Z.two
    have hal : Below W.heap.size W (W.alloc (.cells #[.int .i64 0, .int .i64 0] 24)) := (Below.refl _ _).alloc (Nat.le_refl _) _
    have HBf := Lib.hid (((hal.trans (HB3.out.mono hal.size)).setCell (p := ⟨W.heap.size, 0, none⟩) (Nat.le_refl _) (.int .i64 a)).setCell (p := ⟨W.heap.size, 1, none⟩) (Nat.le_refl _) (.int .i64 b))
    clear hal
    go_wp2
    refine bodyPost_ret (v := .tuple #[.agg #[.int .i64 a, .int .i64 b], .int .i64 0]) ?_ rfl ⟨rfl, HH.out.below HBf.out⟩
    simp [results, Try.results33, go_sem, k0, k1]
  · obtain ⟨e1, e2⟩ := ln_arg (l := l) (s := L) hx
    have hN : idN (l.length : Nat) p d = 0 := by unfold idN; rw [if_neg hx]
    have hE : idE (l.length : Nat) p d = 1 := by unfold idE; rw [if_neg hx]
    unfold lnV
    rw [e1, e2]
    unfold idV at KI
    rw [hN, hE] at KI
    clear e1 e2 hx hN hE h
    generalize l.length = n at *
    go_enter Try.func33, Try.ntmps33
    go_wp2_with fail
    refine KL.out.mono ?_
    rintro e w1 ⟨rfl, rfl⟩
    go_wp2_with fail
    refine (KI.out _).mono ?_
    rintro e w2 ⟨rfl, rfl⟩
    go_wp2
    obtain ⟨k0, k1, _, _⟩ := HR.out.two
    refine bodyPost_ret (v := .tuple #[.agg #[.int .i64 0, .int .i64 0], .int .i64 1]) ?_ rfl ⟨rfl, H0⟩
    simp [results, Try.results33, go_sem, k0, k1]
end Go.Proofs.Ytaeodkpkgbjaeaa
