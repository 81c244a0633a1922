/- Layer 22 (item): seen events read in the reference, at every dimension; a seen event among the arguments of a law. -/
import Derived.Test.YtpoemflclbhekaaGreatSeeG
import Derived.Test.YtpoemflclbhekaaGreatItmP
import Derived.OpenShut
namespace Go.Proofs.YtpoemflclbhekaaGreat
open Go.RowKit
set_option linter.unusedVariables false
set_option linter.unusedSimpArgs false

set_option maxRecDepth 2000000 in
set_option maxHeartbeats 8000000 in
theorem ref_GetSeen_bad (b : List Int) (A : Option Addr) (c k : Nat) (e : Int) (dim : Int) (hd : ¬ (1 ≤ dim ∧ dim ≤ 8)) (w : World) : Calls Tryz.prog 18 #[.agg #[.slice A b.length c, .int .i64 (k : Nat), .int .i64 e], .int .i64 dim] w (GivesRE A b.length c ((k, failE e 211), (0, [], 0, 0, false)) w) := by
  have hb1 := (Below.refl w.heap.size w).alloc (Nat.le_refl _) (.cells #[.slice A b.length c, .int .i64 (k : Nat), .int .i64 e] 34)
  have hb2 := hb1.alloc hb1.size (.cells #[.slice none 0 0, .int .i64 0, .int .i64 0] 34)
  have hb3 := hb2.alloc hb2.size (.cells #[.int .i64 0, .slice none 0 0, .int .i64 0, .int .i64 0, .bool false] 41)
  have hx0 := ((Box.new w #[.slice A b.length c, .int .i64 (k : Nat), .int .i64 e] 34).alloc (.cells #[.slice none 0 0, .int .i64 0, .int .i64 0] 34)).alloc (.cells #[.int .i64 0, .slice none 0 0, .int .i64 0, .int .i64 0, .bool false] 41)
  have hx1 := (Box.new (w.alloc (.cells #[.slice A b.length c, .int .i64 (k : Nat), .int .i64 e] 34)) #[.slice none 0 0, .int .i64 0, .int .i64 0] 34).alloc (.cells #[.int .i64 0, .slice none 0 0, .int .i64 0, .int .i64 0, .bool false] 41)
  have hx2 := Box.new ((w.alloc (.cells #[.slice A b.length c, .int .i64 (k : Nat), .int .i64 e] 34)).alloc (.cells #[.slice none 0 0, .int .i64 0, .int .i64 0] 34)) #[.int .i64 0, .slice none 0 0, .int .i64 0, .int .i64 0, .bool false] 41
  rw [alloc_size'] at hx1
  rw [alloc_size', alloc_size'] at hx2
  have HV : Hid (VJ w (((w.alloc (.cells #[.slice A b.length c, .int .i64 (k : Nat), .int .i64 e] 34)).alloc (.cells #[.slice none 0 0, .int .i64 0, .int .i64 0] 34)).alloc (.cells #[.int .i64 0, .slice none 0 0, .int .i64 0, .int .i64 0, .bool false] 41))) := ⟨hx1, hx2, hb3⟩
  have KF := Lib.hid (ref_Fail21 A b.length c k e 211 (((w.alloc (.cells #[.slice A b.length c, .int .i64 (k : Nat), .int .i64 e] 34)).alloc (.cells #[.slice none 0 0, .int .i64 0, .int .i64 0] 34)).alloc (.cells #[.int .i64 0, .slice none 0 0, .int .i64 0, .int .i64 0, .bool false] 41)))
  obtain ⟨x0, x1, x2, -, -, -⟩ := hx0.three
  clear hb1 hb2 hb3 hx0 hx1 hx2
  generalize b.length = N at *
  generalize failE e 211 = E at *
  have hor : dim < 1 ∨ (¬ dim < 1 ∧ 8 < dim) := by omega
  clear hd
  rcases hor with hlo | ⟨hlo, hhi⟩
  all_goals
    go_enter Tryz.func18, Tryz.ntmps18
    go_wp2_with fail
    refine (KF.out).mono ?_
    rintro r w3 ⟨rfl, h1⟩
    have HV9 := Lib.hid (HV.out.below h1)
    clear h1 HV KF x0 x1 x2
    obtain ⟨u0, u1, u2, f0, f1, f2⟩ := HV9.out.b1.three
    obtain ⟨q0, q1, q2, q3, q4⟩ := (show Box w3 (w.heap.size + 1 + 1) _ _ from HV9.out.b2).five
    obtain ⟨qf0, qf1, qf2, qf3, qf4⟩ := (show Box w3 (w.heap.size + 1 + 1) _ _ from HV9.out.b2).frees
    have hf1 : Box (((((((((w3.setCell ⟨w.heap.size + 1, 0, none⟩ (.slice A N c)).setCell ⟨w.heap.size + 1, 1, none⟩ (.int .i64 (k : Nat))).setCell ⟨w.heap.size + 1, 2, none⟩ (.int .i64 E)).setCell ⟨w.heap.size + 1 + 1, 0, none⟩ (.int .i64 0)).setCell ⟨w.heap.size + 1 + 1, 1, none⟩ (.slice none 0 0)).setCell ⟨w.heap.size + 1 + 1, 2, none⟩ (.int .i64 0)).setCell ⟨w.heap.size + 1 + 1, 3, none⟩ (.int .i64 0)).setCell ⟨w.heap.size + 1 + 1, 4, none⟩ (.bool false))) (w.heap.size + 1) #[.slice A N c, .int .i64 (k : Nat), .int .i64 E] 34 := ((Wr.set (w.heap.size + 1 + 1) 4 _ (.bool false)).box ((Wr.set (w.heap.size + 1 + 1) 3 _ (.int .i64 0)).box ((Wr.set (w.heap.size + 1 + 1) 2 _ (.int .i64 0)).box ((Wr.set (w.heap.size + 1 + 1) 1 _ (.slice none 0 0)).box ((Wr.set (w.heap.size + 1 + 1) 0 _ (.int .i64 0)).box (((HV9.out.b1.set 0 (.slice A N c)).set 1 (.int .i64 (k : Nat))).set 2 (.int .i64 E)) (by omega)) (by omega)) (by omega)) (by omega)) (by omega))
    have hf2 : Box (((((((((w3.setCell ⟨w.heap.size + 1, 0, none⟩ (.slice A N c)).setCell ⟨w.heap.size + 1, 1, none⟩ (.int .i64 (k : Nat))).setCell ⟨w.heap.size + 1, 2, none⟩ (.int .i64 E)).setCell ⟨w.heap.size + 1 + 1, 0, none⟩ (.int .i64 0)).setCell ⟨w.heap.size + 1 + 1, 1, none⟩ (.slice none 0 0)).setCell ⟨w.heap.size + 1 + 1, 2, none⟩ (.int .i64 0)).setCell ⟨w.heap.size + 1 + 1, 3, none⟩ (.int .i64 0)).setCell ⟨w.heap.size + 1 + 1, 4, none⟩ (.bool false))) (w.heap.size + 1 + 1) #[.int .i64 0, .slice none 0 0, .int .i64 0, .int .i64 0, .bool false] 41 := (((((((Wr.set (w.heap.size + 1) 2 _ (.int .i64 E)).box ((Wr.set (w.heap.size + 1) 1 _ (.int .i64 (k : Nat))).box ((Wr.set (w.heap.size + 1) 0 _ (.slice A N c)).box HV9.out.b2 (by omega)) (by omega)) (by omega)).set 0 (.int .i64 0)).set 1 (.slice none 0 0)).set 2 (.int .i64 0)).set 3 (.int .i64 0)).set 4 (.bool false))
    have hbf : Below w.heap.size w (((((((((w3.setCell ⟨w.heap.size + 1, 0, none⟩ (.slice A N c)).setCell ⟨w.heap.size + 1, 1, none⟩ (.int .i64 (k : Nat))).setCell ⟨w.heap.size + 1, 2, none⟩ (.int .i64 E)).setCell ⟨w.heap.size + 1 + 1, 0, none⟩ (.int .i64 0)).setCell ⟨w.heap.size + 1 + 1, 1, none⟩ (.slice none 0 0)).setCell ⟨w.heap.size + 1 + 1, 2, none⟩ (.int .i64 0)).setCell ⟨w.heap.size + 1 + 1, 3, none⟩ (.int .i64 0)).setCell ⟨w.heap.size + 1 + 1, 4, none⟩ (.bool false))) := ((((((((HV9.out.bel.setCell (p := ⟨w.heap.size + 1, 0, none⟩) (by show w.heap.size ≤ w.heap.size + 1; omega) (.slice A N c)).setCell (p := ⟨w.heap.size + 1, 1, none⟩) (by show w.heap.size ≤ w.heap.size + 1; omega) (.int .i64 (k : Nat))).setCell (p := ⟨w.heap.size + 1, 2, none⟩) (by show w.heap.size ≤ w.heap.size + 1; omega) (.int .i64 E)).setCell (p := ⟨w.heap.size + 1 + 1, 0, none⟩) (by show w.heap.size ≤ w.heap.size + 1 + 1; omega) (.int .i64 0)).setCell (p := ⟨w.heap.size + 1 + 1, 1, none⟩) (by show w.heap.size ≤ w.heap.size + 1 + 1; omega) (.slice none 0 0)).setCell (p := ⟨w.heap.size + 1 + 1, 2, none⟩) (by show w.heap.size ≤ w.heap.size + 1 + 1; omega) (.int .i64 0)).setCell (p := ⟨w.heap.size + 1 + 1, 3, none⟩) (by show w.heap.size ≤ w.heap.size + 1 + 1; omega) (.int .i64 0)).setCell (p := ⟨w.heap.size + 1 + 1, 4, none⟩) (by show w.heap.size ≤ w.heap.size + 1 + 1; omega) (.bool false))
    have HF1 := Lib.hid hf1
    have HF2 := Lib.hid hf2
    have HBF := Lib.hid hbf
    clear hf1 hf2 hbf
    go_wp2
    generalize ((((((((w3.setCell ⟨w.heap.size + 1, 0, none⟩ (.slice A N c)).setCell ⟨w.heap.size + 1, 1, none⟩ (.int .i64 (k : Nat))).setCell ⟨w.heap.size + 1, 2, none⟩ (.int .i64 E)).setCell ⟨w.heap.size + 1 + 1, 0, none⟩ (.int .i64 0)).setCell ⟨w.heap.size + 1 + 1, 1, none⟩ (.slice none 0 0)).setCell ⟨w.heap.size + 1 + 1, 2, none⟩ (.int .i64 0)).setCell ⟨w.heap.size + 1 + 1, 3, none⟩ (.int .i64 0)).setCell ⟨w.heap.size + 1 + 1, 4, none⟩ (.bool false)) = wf at *
    have y0 := HF1.out.cell 0
    have y1 := HF1.out.cell 1
    have y2 := HF1.out.cell 2
    have z0 := HF2.out.cell 0
    have z1 := HF2.out.cell 1
    have z2 := HF2.out.cell 2
    have z3 := HF2.out.cell 3
    have z4 := HF2.out.cell 4
    refine bodyPost_ret (v := .tuple #[.agg #[.slice A N c, .int .i64 (k : Nat), .int .i64 E], .agg #[.int .i64 0, .slice none 0 0, .int .i64 0, .int .i64 0, .bool false]]) (by simp [results, Tryz.results18, go_sem, y0, y1, y2, z0, z1, z2, z3, z4]) rfl ⟨⟨none, 0, rfl, lies0⟩, HBF.out⟩
theorem ref_GetSeen (b : List Int) (A : Option Addr) (c k : Nat) (e : Int) (dim : Int) (w : World) (hA : LiesY w w.heap.size A b) (hb : byt b) (hl : b.length ≤ 1000000) (hk : k ≤ b.length) : Calls Tryz.prog 18 #[.agg #[.slice A b.length c, .int .i64 (k : Nat), .int .i64 e], .int .i64 dim] w (GivesRE A b.length c (gE b (k, e) dim) w) := by
  unfold gE
  by_cases hd : 1 ≤ dim ∧ dim ≤ 8
  · rw [if_pos hd]
    obtain ⟨D, rfl⟩ := Int.eq_ofNat_of_zero_le (show 0 ≤ dim by omega)
    exact ref_GetSeen_ok b A c k e D (by omega) w hA hb hl hk
  · rw [if_neg hd]
    exact ref_GetSeen_bad b A c k e dim hd w
theorem gE_len (b : List Int) (s : Nat × Int) (dim : Int) : (gE b s dim).2.2.1.length ≤ 8 := by
  unfold gE
  by_cases hd : 1 ≤ dim ∧ dim ≤ 8
  · rw [if_pos hd]
    unfold gE1 finE
    split
    · show (rdE b dim.toNat _).2.length ≤ 8
      rw [rdE_len]; omega
    · simp
  · rw [if_neg hd]; simp
end Go.Proofs.YtpoemflclbhekaaGreat
namespace Go.Proofs.YtpoemflclbhekaaGreat
open Go.RowKit Go.WideShapes Go.ChangeShapes Go.Joins Go.Deep
set_option linter.unusedVariables false
set_option linter.unusedSimpArgs false
section
variable {H : Type} {enc : TypeId × Value → H}
theorem four_of {α : Type} {l : List α} (h : l.length = 4) : ∃ c0 c1 c2 c3, l = [c0, c1, c2, c3] := by
  match l, h with
  | [c0, c1, c2, c3], _ => exact ⟨c0, c1, c2, c3, rfl⟩
theorem two_of {α : Type} {l : List α} (h : l.length = 2) : ∃ c0 c1, l = [c0, c1] := by
  match l, h with
  | [c0, c1], _ => exact ⟨c0, c1, rfl⟩
theorem open_seen_cs {P : Program} {W : World} {base : Nat} {e q : TypeId} {v : Value} {d : DataW H} {p : List MemPlace} {f0 f1 f2 f3 g0 g1 : Field} (he : P.underlying e = some (.struct #[f0, f1, f2, f3])) (hc : P.cellsOf e = 5)
    (ho : (f0.offset, f1.offset, f2.offset, f3.offset) = (0, 1, 2, 4)) (hs : (P.cellsOf f0.type, P.cellsOf f1.type, P.cellsOf f2.type, P.cellsOf f3.type) = (1, 1, 2, 1))
    (hu : (P.underlying f0.type, P.underlying f1.type, P.underlying f2.type, P.underlying f3.type) = (some (.int .i64), some (.slice q), some (.struct #[g0, g1]), some .bool))
    (hg : (g0.offset, g1.offset) = (0, 1)) (hgs : (P.cellsOf g0.type, P.cellsOf g1.type) = (1, 1)) (hgu : (P.underlying g0.type, P.underlying g1.type) = (some (.int .i64), some (.int .i64))) (hq : P.underlying q = some (.int .i64)) (hqc : P.cellsOf q = 1)
    (hv : Value.okWide P W .any base e v) (h : DataW.Trod enc P W 0 (fun _ => true) true e v d p) :
    ∃ id A X c pp qq sc, v = .agg #[.int .i64 id, .slice A (List.length X) c, .int .i64 pp, .int .i64 qq, .bool sc] ∧ Lies W W.heap.size A X ∧ X.length ≤ c ∧ c ≤ 9223372036854775807 ∧ I64 pp ∧ I64 qq := by
  simp only [Prod.mk.injEq] at ho hs hu hg hgs hgu
  obtain ⟨o0, o1, o2, o3⟩ := ho
  obtain ⟨s0, s1, s2, s3⟩ := hs
  obtain ⟨u0, u1, u2, u3⟩ := hu
  obtain ⟨p0, p1⟩ := hg
  obtain ⟨r0, r1⟩ := hgs
  obtain ⟨w0, w1⟩ := hgu
  obtain ⟨cs, rfl, hsz⟩ := okWide_struct he hv
  obtain ⟨v0, v1, v2, v3, v4, rfl⟩ := array5 (hsz.trans hc)
  obtain ⟨fuel, hf⟩ := h
  obtain ⟨xs, n, _, _, hl, hlen, hfl⟩ := DataW.trod_struct he hf
  obtain ⟨y0, y1, y2, y3, rfl⟩ := four_of hlen
  have t0 := hfl 0 f0 rfl
  have t1 := hfl 1 f1 rfl
  have t2 := hfl 2 f2 rfl
  have t3 := hfl 3 f3 rfl
  rw [o0, s0] at t0
  rw [o1, s1] at t1
  rw [o2, s2] at t2
  rw [o3, s3] at t3
  obtain ⟨n0, e0, _, _⟩ := DataW.trod_int u0 t0
  obtain ⟨b3, e3, _⟩ := DataW.trod_bool u3 t3
  simp [Value.cells] at e0 e3
  subst e0 e3
  obtain ⟨xs2, n2', _, _, _, hxl2, hfl2⟩ := DataW.trod_struct u2 t2
  obtain ⟨z0, z1, rfl⟩ := two_of hxl2
  have q0 := hfl2 0 g0 rfl
  have q1 := hfl2 1 g1 rfl
  rw [p0, r0] at q0
  rw [p1, r1] at q1
  obtain ⟨n4, e4, _, w4⟩ := DataW.trod_int w0 q0
  obtain ⟨n5, e5, _, w5⟩ := DataW.trod_int w1 q1
  simp [Value.cells] at e4 e5
  subst e4 e5
  obtain ⟨A, l, c, e6, k1, _, k3, k4⟩ := open_ints_cs (v := v1) u1 hq hqc (by simpa [Value.cells] using t1)
  subst e6
  exact ⟨n0, A, l, c, n4, n5, b3, rfl, k1, k3, k4, i64_of_wf w4, i64_of_wf w5⟩
set_option maxRecDepth 100000 in
theorem open_seen {W : World} {base : Nat} {v : Value} {d : DataW H} {p : List MemPlace} (hv : Value.okWide Tryz.prog W .any base 41 v) (h : DataW.Trod enc Tryz.prog W 0 (fun _ => true) true 41 v d p) :
    ∃ id A X c pp qq sc, v = .agg #[.int .i64 id, .slice A (List.length X) c, .int .i64 pp, .int .i64 qq, .bool sc] ∧ Lies W W.heap.size A X ∧ X.length ≤ c ∧ c ≤ 9223372036854775807 ∧ I64 pp ∧ I64 qq :=
  open_seen_cs Tryz.underlying41 (by kernel_rfl) rfl (by kernel_rfl) (Prod.ext Tryz.underlying3 (Prod.ext Tryz.underlying39 (Prod.ext Tryz.underlying23 Tryz.underlying4))) rfl (by kernel_rfl) (Prod.ext Tryz.underlying3 Tryz.underlying3) Tryz.underlying3 cells_i8 hv h
end
end Go.Proofs.YtpoemflclbhekaaGreat
