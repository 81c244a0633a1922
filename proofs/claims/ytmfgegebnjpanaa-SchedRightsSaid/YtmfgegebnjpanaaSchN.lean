/- Layer 20 (sched): what the statements ask of every program; a way to work among the arguments. -/
import Derived.Test.YtmfgegebnjpanaaSchL
import Derived.Test.YtmfgegebnjpanaaSchG
import Derived.Test.YtmfgegebnjpanaaSchJ
import Derived.Test.YtmfgegebnjpanaaCnfA
namespace Go.Proofs.Ytmfgegebnjpanaa
open Go.RowKit Go.Deep
set_option linter.unusedVariables false
set_option linter.unusedSimpArgs false

theorem newLies20 (w : World) (l : List Int) : Lies (w.alloc (.cells (litI l).toArray 3)) (w.alloc (.cells (litI l).toArray 3)).heap.size (some ⟨w.heap.size, 0, none⟩) l := fun _ => by
  refine ⟨⟨w.heap.size, 0, none⟩, rfl, by simp, fun j hj => ?_⟩
  have h1 : (⟨w.heap.size, 0, none⟩ : Addr).add j = ⟨w.heap.size, j, none⟩ := by unfold Addr.add; split <;> simp_all
  rw [h1]
  refine (cell_of_row _ _ j _ _ (0, 0) (heap_alloc_new w _)).trans ?_
  rw [← litI_get l j hj]; simp
theorem up20 {w w' : World} {o : Obj} (b : Below (w.alloc o).heap.size (w.alloc o) w') : Below w.heap.size w w' :=
  ((Below.refl _ w).alloc (Nat.le_refl _) o).trans (b.mono (by simp))
theorem lies20 {w w' : World} {A : Option Addr} {l : List Int} (h : Lies w w.heap.size A l) (hb : Below w.heap.size w w') : Lies w' w'.heap.size A l := (h.below hb).mono hb.size
theorem belq20 {w w' : World} (h : ∃ n, w' = w.drewN n) : Below w.heap.size w w' := by
  obtain ⟨n, rfl⟩ := h; exact below_drewN2 (Below.refl _ _) n
abbrev useV : Value := cfV 2 16 2 8 5 1 1 10 4 3 9
theorem use_ok : CfOk 2 16 2 8 5 1 1 10 4 3 9 := by unfold CfOk; omega
theorem bad_no : ¬ CfOk 2 16 2 8 5 1 10 10 4 3 9 := by unfold CfOk; omega
set_option maxRecDepth 100000 in
set_option maxHeartbeats 4000000 in
theorem law_usual (w : World) : Calls Try.prog 99 #[] w fun e w' => e = .returned useV ∧ Below w.heap.size w w' := by
  have HX := Lib.hid (Box.new w #[.int .i64 2, .int .i64 16, .int .i64 2, .int .i64 8, .int .i64 5, .int .i64 1, .int .i64 1, .int .i64 10, .int .i64 4, .int .i64 3, .int .i64 9] 88)
  obtain ⟨y0, y1, y2, y3, y4, y5, y6, y7, y8, y9, y10⟩ := box11 HX.out
  have HB := Lib.hid ((Below.refl w.heap.size w).alloc (Nat.le_refl _) (.cells #[.int .i64 2, .int .i64 16, .int .i64 2, .int .i64 8, .int .i64 5, .int .i64 1, .int .i64 1, .int .i64 10, .int .i64 4, .int .i64 3, .int .i64 9] 88))
  go_enter Try.func99, Try.ntmps99
  go_wp2
  refine bodyPost_ret (v := useV) ?_ rfl ⟨rfl, HB.out⟩
  simp only [results, show Try.f99.results = #[.cell 0 88] from rfl]
  go_simp
theorem pl20 : plIL true 2 8 5 0 [] 3 = [0, 1, 0] ∧ plBL true 2 8 5 0 [] 3 = [20, 15] ∧ plE true 2 0 [] 3 = 0 := by decide +kernel
theorem nx20 : nxN true 8 5 10 = 15 ∧ nxE true 10 = 0 ∧ tuN true 8 5 0 20 = 3 ∧ tuE true 0 20 = 0 ∧ nxN false 8 5 0 = 0 ∧ nxE false 0 = 200 := by decide +kernel
theorem du20 : dueV true 2 8 5 10 [10, 5] = .tuple #[.int .i64 1, .bool true] ∧ dueV true 2 8 5 5 [] = .tuple #[.int .i64 0, .bool false] := ⟨by kernel_rfl, by kernel_rfl⟩
set_option maxRecDepth 100000 in
set_option maxHeartbeats 8000000 in
theorem lives20 (w : World) : Calls Try.prog 57 #[] w fun e w' => e = .returned (.bool true) ∧ Below w.heap.size w w' := by
  have i10 : I64 10 := by unfold I64; omega
  have K1 := Lib.hid (fun W => law_usual W)
  have K2 := Lib.hid (fun W => sch_Next 2 16 2 8 5 1 1 10 4 3 9 i10 10 W)
  have K3 := Lib.hid (fun W => sch_Turns 2 16 2 8 5 1 1 10 4 3 9 i10 0 20 W)
  have K4 := Lib.hid (fun W => sch_Plan 2 16 2 8 5 1 1 10 4 3 9 i10 0 [] 3 none 0 W Lies.nil (by simp))
  have K5 := Lib.hid (fun (W : World) => sch_Due 2 16 2 8 5 1 1 10 4 3 9 i10 10 i10 (some ⟨W.heap.size, 0, none⟩) [10, 5] 2 (W.alloc (.cells (litI [10, 5]).toArray 3)) (newLies20 W _) (by simp))
  have K6 := Lib.hid (fun W => sch_Due 2 16 2 8 5 1 1 10 4 3 9 i10 5 (by unfold I64; omega) none [] 0 W Lies.nil (by simp))
  have K8 := Lib.hid (fun W => sch_Next 2 16 2 8 5 1 10 10 4 3 9 i10 0 W)
  have K9 := Lib.hid (fun W => sch_Right 2 16 2 8 5 1 1 10 4 3 9 i10 W)
  have K10 := Lib.hid (fun W => sch_Right 2 16 2 8 5 1 10 10 4 3 9 i10 W)
  rw [decide_eq_true use_ok] at K2 K3 K4 K5 K6 K9
  rw [decide_eq_false bad_no] at K8 K10
  unfold nxV at K2 K8
  unfold tuV at K3
  rw [nx20.1, nx20.2.1] at K2
  rw [nx20.2.2.1, nx20.2.2.2.1] at K3
  rw [nx20.2.2.2.2.1, nx20.2.2.2.2.2] at K8
  rw [du20.1] at K5
  rw [du20.2] at K6
  have K4 : Hid (∀ W, Calls Try.prog 66 #[useV, .int .i64 0, .slice none 0 0, .int .i64 3] W (GivesPl [0, 1, 0] [20, 15] 0 W)) := fun W => (K4.out W).mono fun e w' h => by
    have h' := h
    unfold GivesP20 at h'
    rwa [pl20.1, pl20.2.1, pl20.2.2] at h'
  unfold GivesPl at K4
  have KS1 := Lib.hid (fun (W : World) A c (h : Lies W W.heap.size A [0, 1, 0]) => ref_same1 A (some ⟨W.heap.size, 0, none⟩) [0, 1, 0] [0, 1, 0] c 3 (W.alloc (.cells (litI [0, 1, 0]).toArray 3)).heap.size (W.alloc (.cells (litI [0, 1, 0]).toArray 3)) (lies20 h ((Below.refl _ _).alloc (Nat.le_refl _) _)) (newLies20 W _) (by simp) (by simp))
  have KS2 := Lib.hid (fun (W : World) A c (h : Lies W W.heap.size A [20, 15]) => ref_same1 A (some ⟨W.heap.size, 0, none⟩) [20, 15] [20, 15] c 2 (W.alloc (.cells (litI [20, 15]).toArray 3)).heap.size (W.alloc (.cells (litI [20, 15]).toArray 3)) (lies20 h ((Below.refl _ _).alloc (Nat.le_refl _) _)) (newLies20 W _) (by simp) (by simp))
  simp only [List.length_cons, List.length_nil, Nat.zero_add, Nat.reduceAdd, decide_true, litI, List.map_cons, List.map_nil] at K4 K5 K6 KS1 KS2
  go_enter Try.func57, Try.ntmps57
  go_wp2_with fail
  refine (K1.out _).mono ?_
  rintro e w1 ⟨rfl, b1⟩
  have HX := Lib.hid (Box.new w1 #[.int .i64 2, .int .i64 16, .int .i64 2, .int .i64 8, .int .i64 5, .int .i64 1, .int .i64 1, .int .i64 10, .int .i64 4, .int .i64 3, .int .i64 9] 88)
  have HB := Lib.hid (b1.trans (((Below.refl w1.heap.size w1).alloc (Nat.le_refl _) (.cells #[.int .i64 2, .int .i64 16, .int .i64 2, .int .i64 8, .int .i64 5, .int .i64 1, .int .i64 1, .int .i64 10, .int .i64 4, .int .i64 3, .int .i64 9] 88)).mono b1.size))
  obtain ⟨y0, y1, y2, y3, y4, y5, y6, y7, y8, y9, y10⟩ := box11 HX.out
  have g1b : w.heap.size ≤ w1.heap.size := b1.size
  clear b1
  go_wp2_with fail
  refine (K2.out _).mono ?_
  rintro e w2 ⟨rfl, b⟩
  have HX := Lib.hid (HX.out.below b HX.out.lt)
  have HB := Lib.hid (HB.out.trans (b.mono HB.out.size))
  clear b y0 y1 y2 y3 y4 y5 y6 y7 y8 y9 y10
  obtain ⟨y0, y1, y2, y3, y4, y5, y6, y7, y8, y9, y10⟩ := box11 HX.out
  go_wp2_with fail
  refine (K3.out _).mono ?_
  rintro e w3 ⟨rfl, b⟩
  have HX := Lib.hid (HX.out.below b HX.out.lt)
  have HB := Lib.hid (HB.out.trans (b.mono HB.out.size))
  clear b y0 y1 y2 y3 y4 y5 y6 y7 y8 y9 y10
  obtain ⟨y0, y1, y2, y3, y4, y5, y6, y7, y8, y9, y10⟩ := box11 HX.out
  go_wp2_with fail
  refine (K4.out _).mono ?_
  rintro e w4 ⟨A1, c1, A2, c2, rfl, L1, L2, b⟩
  have HX := Lib.hid (HX.out.below b HX.out.lt)
  have HB := Lib.hid (HB.out.trans (b.mono HB.out.size))
  have L1 := Lib.hid L1
  have L2 := Lib.hid L2
  clear b y0 y1 y2 y3 y4 y5 y6 y7 y8 y9 y10
  obtain ⟨y0, y1, y2, y3, y4, y5, y6, y7, y8, y9, y10⟩ := box11 HX.out
  go_wp2_with fail
  refine (K5.out _).mono ?_
  rintro e w5 ⟨rfl, b'⟩
  have b := up20 b'
  clear b'
  have L1 := Lib.hid (lies20 L1.out b)
  have L2 := Lib.hid (lies20 L2.out b)
  have HX := Lib.hid (HX.out.below b HX.out.lt)
  have HB := Lib.hid (HB.out.trans (b.mono HB.out.size))
  clear b y0 y1 y2 y3 y4 y5 y6 y7 y8 y9 y10
  obtain ⟨y0, y1, y2, y3, y4, y5, y6, y7, y8, y9, y10⟩ := box11 HX.out
  go_wp2_with fail
  refine (K6.out _).mono ?_
  rintro e w6 ⟨rfl, b⟩
  have HX := Lib.hid (HX.out.below b HX.out.lt)
  have HB := Lib.hid (HB.out.trans (b.mono HB.out.size))
  have L1 := Lib.hid (lies20 L1.out b)
  have L2 := Lib.hid (lies20 L2.out b)
  clear b y0 y1 y2 y3 y4 y5 y6 y7 y8 y9 y10
  obtain ⟨y0, y1, y2, y3, y4, y5, y6, y7, y8, y9, y10⟩ := box11 HX.out
  have b := (Below.refl w6.heap.size w6).alloc (Nat.le_refl _) (.cells #[.int .i64 2, .int .i64 16, .int .i64 2, .int .i64 8, .int .i64 5, .int .i64 1, .int .i64 10, .int .i64 10, .int .i64 4, .int .i64 3, .int .i64 9] 88)
  have HZ := Lib.hid (Box.new w6 #[.int .i64 2, .int .i64 16, .int .i64 2, .int .i64 8, .int .i64 5, .int .i64 1, .int .i64 10, .int .i64 10, .int .i64 4, .int .i64 3, .int .i64 9] 88)
  obtain ⟨z0, z1, z2, z3, z4, z5, z6, z7, z8, z9, z10⟩ := box11 HZ.out
  have HX7 := Lib.hid (HX.out.below b HX.out.lt)
  have HB7 := Lib.hid (HB.out.trans (b.mono HB.out.size))
  have L1 := Lib.hid (lies20 L1.out b)
  have L2 := Lib.hid (lies20 L2.out b)
  clear b
  go_wp2_with fail
  refine (K8.out _).mono ?_
  rintro e w8 ⟨rfl, b⟩
  have HX := Lib.hid (HX7.out.below b HX7.out.lt)
  have HZ := Lib.hid (HZ.out.below b HZ.out.lt)
  have HB := Lib.hid (HB7.out.trans (b.mono HB7.out.size))
  have L1 := Lib.hid (lies20 L1.out b)
  have L2 := Lib.hid (lies20 L2.out b)
  clear b y0 y1 y2 y3 y4 y5 y6 y7 y8 y9 y10 z0 z1 z2 z3 z4 z5 z6 z7 z8 z9 z10 HX7 HB7
  obtain ⟨y0, y1, y2, y3, y4, y5, y6, y7, y8, y9, y10⟩ := box11 HX.out
  obtain ⟨z0, z1, z2, z3, z4, z5, z6, z7, z8, z9, z10⟩ := box11 HZ.out
  go_wp2_with fail
  refine (K9.out _).mono ?_
  rintro e w9 ⟨rfl, b⟩
  have HZ := Lib.hid (HZ.out.below b HZ.out.lt)
  have HB := Lib.hid (HB.out.trans (b.mono HB.out.size))
  have L1 := Lib.hid (lies20 L1.out b)
  have L2 := Lib.hid (lies20 L2.out b)
  clear b y0 y1 y2 y3 y4 y5 y6 y7 y8 y9 y10 z0 z1 z2 z3 z4 z5 z6 z7 z8 z9 z10 HX
  obtain ⟨z0, z1, z2, z3, z4, z5, z6, z7, z8, z9, z10⟩ := box11 HZ.out
  go_wp2_with fail
  refine (K10.out _).mono ?_
  rintro e w10 ⟨rfl, b⟩
  have HB := Lib.hid (HB.out.trans (b.mono HB.out.size))
  have L1 := Lib.hid (lies20 L1.out b)
  have L2 := Lib.hid (lies20 L2.out b)
  clear b z0 z1 z2 z3 z4 z5 z6 z7 z8 z9 z10 HZ
  go_wp2_with fail
  refine (KS1.out _ _ _ L1.out).mono ?_
  rintro e w11 ⟨rfl, hw⟩
  have b := up20 (belq20 hw)
  have HB := Lib.hid (HB.out.trans (b.mono HB.out.size))
  have L2 := Lib.hid (lies20 L2.out b)
  clear b hw
  go_wp2_with fail
  refine (KS2.out _ _ _ L2.out).mono ?_
  rintro e w12 ⟨rfl, hw⟩
  have b := up20 (belq20 hw)
  have HB := Lib.hid (HB.out.trans (b.mono HB.out.size))
  clear b hw
  go_wp2
  go_ret
  exact ⟨rfl, HB.out⟩
section
open Go.WideShapes Go.ChangeShapes Go.Joins
variable {H : Type} {enc : TypeId × Value → H}
set_option maxRecDepth 100000 in
theorem open_conf {W : World} {base : Nat} {v : Value} {d : DataW H} {p : List MemPlace} (hv : Value.okWide Try.prog W .any base 88 v) (h : DataW.Trod enc Try.prog W 0 (fun _ => true) true 88 v d p) :
    ∃ dim win tr sam ev kind part whole tries keep notes : Int, v = cfV dim win tr sam ev kind part whole tries keep notes ∧ I64 whole := by
  obtain ⟨l, rfl, hl, hI⟩ := open_ints_of Try.underlying88 (by
    intro i f hf
    match i, hf with
    | 0, hf | 1, hf | 2, hf | 3, hf | 4, hf | 5, hf | 6, hf | 7, hf | 8, hf | 9, hf | 10, hf => obtain rfl := Option.some.inj hf; exact Try.underlying3
    | i + 11, hf => simp at hf) (by kernel_rfl) (by kernel_rfl) hv h
  match l, hl with
  | [dim, win, tr, sam, ev, kind, part, whole, tries, keep, notes], _ => exact ⟨dim, win, tr, sam, ev, kind, part, whole, tries, keep, notes, rfl, hI whole (by simp)⟩
end
end Go.Proofs.Ytmfgegebnjpanaa
