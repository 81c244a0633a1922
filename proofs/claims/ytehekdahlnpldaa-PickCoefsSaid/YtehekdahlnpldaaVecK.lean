import Derived.Test.YtehekdahlnpldaaVecJ

/-! Package vec: Box. -/
namespace Go.Proofs.Ytehekdahlnpldaa
open Go.RowKit
set_option linter.unusedVariables false
set_option linter.unusedSimpArgs false

def colL (R : List Row) (j : Nat) : Int := loL ((R.getD 0 row0).l.getD j 0) (R.tail.map fun r => r.l.getD j 0)
def colH (R : List Row) (j : Nat) : Int := hiL ((R.getD 0 row0).l.getD j 0) (R.tail.map fun r => r.l.getD j 0)
def boxE (R : List Row) (d : Int) : Bool := allV R d && decide (0 < R.length)
def boxLo (R : List Row) (d : Int) : List Int := if boxE R d then (List.range d.toNat).map (colL R) else []
def boxHi (R : List Row) (d : Int) : List Int := if boxE R d then (List.range d.toNat).map (colH R) else []
def boxC (R : List Row) (d : Int) : Int := if boxE R d then 0 else 80
/-- the first k columns are as they shall be, the others still the first row's -/
def mixI (F G : Nat → Int) (D k : Nat) : List Int := (List.range D).map fun j => if j < k then F j else G j
theorem mixI_len (F G : Nat → Int) (D k : Nat) : (mixI F G D k).length = D := by simp [mixI]
theorem mixI_get {F G : Nat → Int} {D k : Nat} (h : k < D) : (mixI F G D k).getD k 0 = G k := by
  unfold mixI
  rw [List.getD_eq_getElem?_getD, List.getElem?_map, List.getElem?_range h]
  simp
theorem mixI_set {F G : Nat → Int} {D k : Nat} (h : k < D) : (mixI F G D k).set k (F k) = mixI F G D (k + 1) := by
  refine List.ext_getElem (by simp [mixI]) fun j h1 h2 => ?_
  rw [List.getElem_set]
  simp only [mixI, List.getElem_map, List.getElem_range]
  by_cases g : k = j
  · subst g; simp
  · rw [if_neg g]
    by_cases g2 : j < k
    · rw [if_pos g2, if_pos (by omega)]
    · rw [if_neg g2, if_neg (by omega)]
theorem mixI_end (F G : Nat → Int) (D : Nat) : mixI F G D D = (List.range D).map F := by
  unfold mixI
  refine List.map_congr_left fun j hj => ?_
  rw [if_pos (List.mem_range.1 hj)]
theorem mixI_zero (F : Nat → Int) (l : List Int) : mixI F (fun j => l.getD j 0) l.length 0 = l := by
  refine List.ext_getElem (by simp [mixI]) fun j h1 h2 => ?_
  simp only [mixI, List.getElem_map, List.getElem_range]
  rw [if_neg (by omega), List.getD_eq_getElem?_getD, List.getElem?_eq_getElem h2]; rfl
/-- two rows of numbers, each of the call's own -/
def GivesBox (R : List Row) (d : Int) (w : World) (e : Ending) (w' : World) : Prop :=
  ∃ A c A2 c2, e = .returned (.tuple #[.slice A (boxLo R d).length c, .slice A2 (boxHi R d).length c2, .int .i64 (boxC R d)]) ∧ (boxLo R d).length ≤ c ∧ (boxHi R d).length ≤ c2 ∧ Lies w' w'.heap.size A (boxLo R d) ∧ Lies w' w'.heap.size A2 (boxHi R d) ∧ Below w.heap.size w w'

theorem box1 (A : Option Addr) (l : List Int) (c B g k : Nat) (w : World) (hx : w.cell? ⟨g, 0, none⟩ = some (.int .i64 k)) (hA : Lies w B A l) (hk : k < l.length) :
    Calls Try.prog 154 #[.slice A l.length c, ptr g 0] w fun e w' => e = .returned (.int .i64 (l.getD k 0)) ∧ w = w' := by
  obtain ⟨ad, rfl, _, hcell⟩ := hA.at (k := k) hk
  have hk2 : (k : Int) < (l.length : Int) := by omega
  generalize l.getD k 0 = z at *
  clear hA
  generalize l.length = N at *
  go_enter Try.func154, Try.ntmps154
  go_wp2
  go_ret
  exact ⟨rfl, rfl⟩

/-- what was copied so far, in blocks of the call's own -/
def Cop (B : Nat) (W : World) (l : List Int) (gs : List Nat) (w : World) : Prop := Below B W w ∧ B ≤ w.heap.size ∧ gs.Nodup ∧ ∀ g ∈ gs, B ≤ g ∧ OwnI w g l
theorem Cop.push {B : Nat} {W w w' : World} {l : List Int} {gs : List Nat} (h : Cop B W l gs w) {g : Nat} (hg : w.heap.size ≤ g) (ho : OwnI w' g l) (hb : Below w.heap.size w w') : Cop B W l (g :: gs) w' := by
  obtain ⟨h1, h2, h3, h4⟩ := h
  refine ⟨h1.trans (hb.mono h2), Nat.le_trans h2 hb.size, List.nodup_cons.2 ⟨fun hm => ?_, h3⟩, fun x hx => ?_⟩
  · have := (h4 g hm).2.lt; omega
  · rcases List.mem_cons.1 hx with rfl | hx
    · exact ⟨by omega, ho⟩
    · exact ⟨(h4 x hx).1, (h4 x hx).2.below hb (h4 x hx).2.lt⟩
theorem Cop.b {B : Nat} {W w : World} {l : List Int} {gs : List Nat} (h : Cop B W l gs w) : Below B W w := h.1
theorem Cop.drew {B : Nat} {W w : World} {l : List Int} {gs : List Nat} (h : Cop B W l gs w) : Cop B W l gs w.drew := ⟨h.1.drew, h.2.1, h.2.2⟩

set_option maxRecDepth 100000 in
set_option maxHeartbeats 4000000 in
theorem vec_Box (A : Option Addr) (R : List Row) (c : Nat) (d : Int) (w : World) (hA : LiesR w w.heap.size A R) (hR : OkR R) (hl : (R.length : Int) ≤ 9223372036854775807) (hc : R.length ≤ c) :
    Calls Try.prog 133 #[.slice A R.length c, .int .i64 d] w (GivesBox R d w) := by
  have K1 := Lib.hid (vec_check A R c w.heap.size d w hA hR hl)
  by_cases hE : boxE R d = true
  · have hE2 := hE
    unfold boxE at hE2
    rw [Bool.and_eq_true, decide_eq_true_eq] at hE2
    obtain ⟨hall, h0⟩ := hE2
    have hch : chkV R d = 0 := chkV_iff.2 ⟨h0, hall⟩
    rw [hch] at K1
    have hLo : boxLo R d = (List.range d.toNat).map (colL R) := by unfold boxLo; rw [if_pos hE]
    have hHi : boxHi R d = (List.range d.toNat).map (colH R) := by unfold boxHi; rw [if_pos hE]
    have hCo : boxC R d = 0 := by unfold boxC; rw [if_pos hE]
    have hG : Hid (∀ e w', GivesBox R d w e w' ↔ ∃ A c A2 c2, e = .returned (.tuple #[.slice A ((List.range d.toNat).map (colL R)).length c, .slice A2 ((List.range d.toNat).map (colH R)).length c2, .int .i64 0]) ∧ ((List.range d.toNat).map (colL R)).length ≤ c ∧ ((List.range d.toNat).map (colH R)).length ≤ c2 ∧ Lies w' w'.heap.size A ((List.range d.toNat).map (colL R)) ∧ Lies w' w'.heap.size A2 ((List.range d.toNat).map (colH R)) ∧ Below w.heap.size w w') := fun e w' => by
      unfold GivesBox; rw [hLo, hHi, hCo]
    have hv := allV_iff.1 hall
    obtain ⟨ad, rfl, hadb, hcell, hlies⟩ := hA.at (k := 0) h0
    have hcell' : w.cell? ad = some (.slice (R.getD 0 row0).a (R.getD 0 row0).l.length (R.getD 0 row0).c) := by rw [add_zero'] at hcell; exact hcell
    obtain ⟨v1, v2, v3, _⟩ := isV_iff.1 (hv 0 h0)
    have h00 := (hR _ (getD_mem h0)).1
    obtain ⟨D, hD⟩ : ∃ D : Nat, D = (R.getD 0 row0).l.length := ⟨_, rfl⟩
    obtain rfl : d = (D : Int) := by rw [hD]; exact v3.symm
    have hDN : Hid (((D : Int)).toNat = D) := by show _ = _; omega
    have KC := Lib.hid (fun W (h : Lies W w.heap.size (R.getD 0 row0).a (R.getD 0 row0).l) => vec_copied (R.getD 0 row0).a (R.getD 0 row0).l (R.getD 0 row0).c w.heap.size W h (by omega) (by omega) h00)
    have HLI := Lib.hid (fun W (h : Below w.heap.size w W) => hlies.below h)
    have HAA := Lib.hid (fun W (h : Below w.heap.size w W) => hA.below h)
    have HM0 : Hid (∀ F : Nat → Int, mixI F (fun j => (R.getD 0 row0).l.getD j 0) D 0 = (R.getD 0 row0).l) := fun F => by rw [hD]; exact mixI_zero F _
    have HCL : Hid (∀ j, colL R j = loL ((R.getD 0 row0).l.getD j 0) (R.tail.map fun r => r.l.getD j 0)) := fun j => rfl
    have HCH : Hid (∀ j, colH R j = hiL ((R.getD 0 row0).l.getD j 0) (R.tail.map fun r => r.l.getD j 0)) := fun j => rfl
    have HROW : Hid (∀ j, j < R.tail.length → (R.tail.getD j row0).l.length = D) := fun j hj => by
      have h1 : R.tail.getD j row0 = R.getD (j + 1) row0 := by cases R <;> simp
      have h2 := (isV_iff.1 (hv (j + 1) (by rw [List.length_tail] at hj; omega))).2.2.1
      rw [h1]; omega
    have HCUT : Hid (∀ W, LiesR W w.heap.size (some ad) R → LiesR W w.heap.size (if c = 1 then some ad else (some ad).map (·.add 1)) R.tail) := fun W h => by
      have := liesR_cut h 1 (by omega) hc
      rw [List.drop_one] at this
      exact this
    have htl : Hid (R.tail.length = R.length - 1) := List.length_tail
    generalize (R.getD 0 row0).l = l0 at *
    generalize (R.getD 0 row0).a = a0 at *
    generalize (R.getD 0 row0).c = c0 at *
    rw [← hD] at hcell hcell' KC v3
    have HD := Lib.hid hD
    generalize hM : R.length = M at *
    have HM := Lib.hid hM
    have g4 : (M : Int) ≤ (c : Int) := by omega
    have g6 : (1 : Int) ≤ M := by omega
    clear hA hlies hE hall hch hLo hHi hCo hv hD hM v3 h00 hR
    have J0 := Lib.hid (show Cop w.heap.size w l0 [] w from ⟨Below.refl _ _, Nat.le_refl _, List.nodup_nil, fun g hg => by cases hg⟩)
    go_enter Try.func133, Try.ntmps133
    go_wp2_with fail
    refine K1.out.mono ?_
    rintro e w2 ⟨rfl, hw2⟩
    have J1 : Hid (Cop w.heap.size w l0 [] w2) := by obtain ⟨n, rfl⟩ := hw2; exact ⟨below_drewN2 (Below.refl _ _) n, Nat.le_refl _, List.nodup_nil, fun g hg => by cases hg⟩
    have hcell2 : w2.cell? (ad.add 0) = some (.slice a0 D c0) := by obtain ⟨n, rfl⟩ := hw2; exact hcell
    have hcell2' : w2.cell? ad = some (.slice a0 D c0) := by obtain ⟨n, rfl⟩ := hw2; exact hcell'
    have HB : Hid (∀ W, Below w.heap.size w W → W.cell? ad = some (.slice a0 D c0)) := fun W h => (h.cell hadb).trans hcell'
    clear hw2 J0 hcell hcell'
    go_wp2
    have J1 := Lib.hid J1.out.drew
    go_region_held3 (fun wr => wr.cell? ad = some (.slice a0 D c0)) (first | assumption | exact HB.out _ J1.out.b | go_keep)
      (first
          | (go_at_call 153; ((with_reducible refine (KC.out _ (HLI.out _ J1.out.b)).mono ?_); rintro e w3 ⟨g, rfl, hg, ho, b2⟩; have J1 := Lib.hid (J1.out.push hg ho b2); have hcx := HB.out _ J1.out.b; clear b2 hg ho)))
    rename_i _ g1 _ _ _
    obtain ⟨hb3, hs3, hnd, hown⟩ := (show _ ∧ _ from J1.out)
    have ho1 := hown g1 (by simp)
    have ho2 := hown g (by simp)
    have hne : g1 ≠ g := by have := (List.nodup_cons.1 hnd).1; intro e; exact this (by simp [e])
    have hg1 := ho1.1
    have hg2 := ho2.1
    have HO1' := Lib.hid ho1.2
    have HO2' := Lib.hid ho2.2
    have HB3' := Lib.hid hb3
    clear ho1 ho2 hnd hown hb3 hs3
    go_wp2
    go_loopw [26] (fun i wr => ∃ k : Nat, k ≤ D ∧ i = .int .i64 k ∧ Hid (OwnI wr g1 (mixI (colL R) (fun j => l0.getD j 0) D k)) ∧ Hid (OwnI wr g (mixI (colH R) (fun j => l0.getD j 0) D k)) ∧ Hid (Below w.heap.size w wr)) (fun i _ => D - (intOf i).toNat)
    case atStart => exact ⟨0, by omega, rfl, (by show OwnI _ _ _; rw [HM0.out]; exact HO1'.out), (by show OwnI _ _ _; rw [HM0.out]; exact HO2'.out), HB3'.out⟩
    case round =>
      obtain ⟨k, hk, rfl, HO1k, HO2k, HBk⟩ := hrel
      by_cases hlt : k < D
      · have hxl := HO1k.out.lt
        have hxh := HO2k.out.lt
        have hga : g1 ≠ wr.heap.size := by omega
        have hgb : g ≠ wr.heap.size := by omega
        have HLL : Hid ((mixI (colL R) (fun j => l0.getD j 0) D k).length = D) := mixI_len _ _ _ _
        have HHL : Hid ((mixI (colH R) (fun j => l0.getD j 0) D k).length = D) := mixI_len _ _ _ _
        have HGL : Hid ((mixI (colL R) (fun j => l0.getD j 0) D k).getD k 0 = l0.getD k 0) := mixI_get hlt
        have HGH : Hid ((mixI (colH R) (fun j => l0.getD j 0) D k).getD k 0 = l0.getD k 0) := mixI_get hlt
        have HSL : Hid ((mixI (colL R) (fun j => l0.getD j 0) D k).set k (colL R k) = mixI (colL R) (fun j => l0.getD j 0) D (k + 1)) := mixI_set hlt
        have HSH : Hid ((mixI (colH R) (fun j => l0.getD j 0) D k).set k (colH R k) = mixI (colH R) (fun j => l0.getD j 0) D (k + 1)) := mixI_set hlt
        have HB1 : Hid (Below w.heap.size w (wr.alloc (.cells #[.int .i64 k] 3))) := HBk.out.alloc HBk.out.size _
        have HBS : Hid (w.heap.size ≤ (wr.alloc (.cells #[.int .i64 k] 3)).heap.size) := HB1.out.size
        have HXC : Hid ((wr.alloc (.cells #[.int .i64 k] 3)).cell? ⟨wr.heap.size, 0, none⟩ = some (.int .i64 k)) := by
          show _ = _
          have := (Box.new wr #[.int .i64 (k : Int)] 3).cell 0
          exact this
        have HO1 : Hid (OwnI (wr.alloc (.cells #[.int .i64 k] 3)) g1 (mixI (colL R) (fun j => l0.getD j 0) D k)) := HO1k.out.alloc _
        have HO2 : Hid (OwnI (wr.alloc (.cells #[.int .i64 k] 3)) g (mixI (colH R) (fun j => l0.getD j 0) D k)) := HO2k.out.alloc _
        obtain ⟨A1, hA1⟩ : ∃ A1, A1 = (if c = 1 then some ad else some (ad.add 1)) := ⟨_, rfl⟩
        have HA1 := Lib.hid hA1
        have KE : Hid (∀ W2, Below w.heap.size w W2 → W2.cell? ⟨wr.heap.size, 0, none⟩ = some (.int .i64 k) → Calls Try.prog 137 #[.int .i64 (l0.getD k 0), .int .i64 (l0.getD k 0), .slice A1 (M - 1) (c - 1), .func (.func 154) #[] #[ptr wr.heap.size 0]] W2 fun e w' => e = .returned (.tuple #[.int .i64 (colL R k), .int .i64 (colH R k)]) ∧ ∃ n, w' = W2.drewN n) := fun W2 h1 h2 => by
          have hcut := HCUT.out W2 (HAA.out W2 h1)
          have h := ext_box (ptr wr.heap.size 0) (fun r => r.l.getD k 0) _ R.tail (c - 1) w.heap.size (l0.getD k 0) (l0.getD k 0) W2 hcut (by rw [htl.out]; omega) (fun n j hj => (box1 _ _ _ w.heap.size wr.heap.size k (W2.drewN n) h2 (hcut.2 _ (getD_mem hj)) (by rw [HROW.out j hj]; exact hlt)).mono fun e w' hh => ⟨hh.1, 0, hh.2.symm⟩)
          rw [htl.out, ← HCL.out, ← HCH.out] at h
          rw [hA1]
          exact h
        clear hA1
        generalize l0.getD k 0 = x at *
        generalize colL R k = x1 at *
        generalize colH R k = x2 at *
        generalize hlo1 : mixI (colL R) (fun j => l0.getD j 0) D k = lo1 at *
        generalize hhi1 : mixI (colH R) (fun j => l0.getD j 0) D k = hi1 at *
        go_wp2
        refine wp_region_steps (BoxJ w.heap.size w g1 g wr.heap.size k lo1 (lo1.set k x1) hi1 (hi1.set k x2) [some (.slice (some ⟨g1, 0, none⟩) D D), some (.int .i64 k), some (.slice (some ⟨g, 0, none⟩) D D), some (.int .i64 k), some (.slice (some ⟨g1, 0, none⟩) D D), some (.int .i64 k), some (ptr g1 k), some (.int .i64 x), some (.slice (some ⟨g, 0, none⟩) D D), some (.int .i64 k), some (ptr g k), some (.int .i64 x), some (.slice (some ad) M c), some (.slice A1 (M - 1) (c - 1)), some (.func (.func 154) #[] #[ptr wr.heap.size 0]), some (.tuple #[.int .i64 x1, .int .i64 x2]), some (.tuple #[.int .i64 x1, .int .i64 x2]), some (.int .i64 x1), some (.int .i64 x2), some (ptr g1 k), none, some (ptr g k), none])
          [[],[],[],[],[],[],[4,5],[6],[],[],[8,9],[10],[],[12],[],[7,11,13,14],[15],[16],[16],[0,1,0,1,4,5,6,7,8,9,10,11,12,13,14,15,16,17],[19,17,15,0,1,4,5,6,7,8,9,10,11,12,13,14,15,16,17],[2,3,0,1,2,3,4,5,6,7,8,9,10,11,12,13,14,15,16,17,18,19,20],[21,18,20,0,1,2,3,4,5,6,7,8,9,10,11,12,13,14,15,16,17,18,19,20]] (by kernel_rfl) (by kernel_rfl) (by kernel_rfl) (by kernel_rfl) ?_ ?_ ?_ ?_
        · exact fun f g vs w => BoxJ.alike rfl f g vs w
        · intro vs _
          exact ⟨fun j u h => by simp at h, ⟨HB1.out.drew, HBS.out⟩, HXC.out, HO1.out, HO2.out, by simp, by simp⟩
        · refine ⟨?_, ?_, ?_, ?_, ?_, ?_, ?_, ?_, ?_, ?_, ?_, ?_, ?_, ?_, ?_, ?_, ?_, ?_, ?_, ?_, ?_, ?_, ?_, trivial⟩
          all_goals
            intro f vs w1 hlen hf hp hj K hK
            rw [if_pos (by rfl)]
            obtain ⟨y0, y1, y2, y3, y4, y5, y6, y7, y8, y9, y10, y11, y12, y13, y14, y15, y16, y17, y18, y19, y20, y21, y22, rfl⟩ := len23 hlen
            clear hlen
            have HJ := Lib.hid hj
            simp only [putAll, Act.put, List.setIfInBounds_toArray, List.set_cons_zero, List.set_cons_succ] at hK ⊢
            clear hj
          -- 0
          · clear hp
            go_simp
            refine hK (.slice (some ⟨g1, 0, none⟩) D D) w1 ?_
            exact BoxJ.step (vs := [y0, y1, y2, y3, y4, y5, y6, y7, y8, y9, y10, y11, y12, y13, y14, y15, y16, y17, y18, y19, y20, y21, y22]) (i := 0) HJ.out (by simp) (by omega) (by omega) (fun u hu => by simpa using hu) ⟨0, rfl⟩
          -- 1
          · have hx1 := HJ.out.2.2.1
            clear hp
            go_simp
            refine hK (.int .i64 k) w1 ?_
            exact BoxJ.step (vs := [y0, y1, y2, y3, y4, y5, y6, y7, y8, y9, y10, y11, y12, y13, y14, y15, y16, y17, y18, y19, y20, y21, y22]) (i := 1) HJ.out (by simp) (by omega) (by omega) (fun u hu => by simpa using hu) ⟨0, rfl⟩
          -- 2
          · clear hp
            go_simp
            refine hK (.slice (some ⟨g, 0, none⟩) D D) w1 ?_
            exact BoxJ.step (vs := [y0, y1, y2, y3, y4, y5, y6, y7, y8, y9, y10, y11, y12, y13, y14, y15, y16, y17, y18, y19, y20, y21, y22]) (i := 2) HJ.out (by simp) (by omega) (by omega) (fun u hu => by simpa using hu) ⟨0, rfl⟩
          -- 3
          · have hx1 := HJ.out.2.2.1
            clear hp
            go_simp
            refine hK (.int .i64 k) w1 ?_
            exact BoxJ.step (vs := [y0, y1, y2, y3, y4, y5, y6, y7, y8, y9, y10, y11, y12, y13, y14, y15, y16, y17, y18, y19, y20, y21, y22]) (i := 3) HJ.out (by simp) (by omega) (by omega) (fun u hu => by simpa using hu) ⟨0, rfl⟩
          -- 4
          · clear hp
            go_simp
            refine hK (.slice (some ⟨g1, 0, none⟩) D D) w1 ?_
            exact BoxJ.step (vs := [y0, y1, y2, y3, y4, y5, y6, y7, y8, y9, y10, y11, y12, y13, y14, y15, y16, y17, y18, y19, y20, y21, y22]) (i := 4) HJ.out (by simp) (by omega) (by omega) (fun u hu => by simpa using hu) ⟨0, rfl⟩
          -- 5
          · have hx1 := HJ.out.2.2.1
            clear hp
            go_simp
            refine hK (.int .i64 k) w1 ?_
            exact BoxJ.step (vs := [y0, y1, y2, y3, y4, y5, y6, y7, y8, y9, y10, y11, y12, y13, y14, y15, y16, y17, y18, y19, y20, y21, y22]) (i := 5) HJ.out (by simp) (by omega) (by omega) (fun u hu => by simpa using hu) ⟨0, rfl⟩
          -- 6
          · obtain rfl : y4 = (.slice (some ⟨g1, 0, none⟩) D D) := HJ.out.1 4 _ (hp 4 (by simp)) rfl
            obtain rfl : y5 = (.int .i64 k) := HJ.out.1 5 _ (hp 5 (by simp)) rfl
            clear hp
            go_simp
            refine hK (ptr g1 k) w1 ?_
            exact BoxJ.step (vs := [y0, y1, y2, y3, .slice (some ⟨g1, 0, none⟩) D D, .int .i64 k, y6, y7, y8, y9, y10, y11, y12, y13, y14, y15, y16, y17, y18, y19, y20, y21, y22]) (i := 6) HJ.out (by simp) (by omega) (by omega) (fun u hu => by simpa using hu) ⟨0, rfl⟩
          -- 7
          · obtain rfl : y6 = (ptr g1 k) := HJ.out.1 6 _ (hp 6 (by simp)) rfl
            have f20 : f 20 = false := by
              cases h : f 20 with
              | false => rfl
              | true => rw [HJ.out.2.2.2.2.2.1 h] at hf; cases hf
            have ho := HJ.out.2.2.2.1
            rw [f20] at ho
            simp only [cond_false] at ho
            have hx1 := ho.cell (k := k) (by have := HLL.out; omega)
            rw [HGL.out] at hx1
            clear ho f20
            clear hp
            go_simp
            refine hK (.int .i64 x) w1 ?_
            exact BoxJ.step (vs := [y0, y1, y2, y3, y4, y5, ptr g1 k, y7, y8, y9, y10, y11, y12, y13, y14, y15, y16, y17, y18, y19, y20, y21, y22]) (i := 7) HJ.out (by simp) (by omega) (by omega) (fun u hu => by simpa using hu) ⟨0, rfl⟩
          -- 8
          · clear hp
            go_simp
            refine hK (.slice (some ⟨g, 0, none⟩) D D) w1 ?_
            exact BoxJ.step (vs := [y0, y1, y2, y3, y4, y5, y6, y7, y8, y9, y10, y11, y12, y13, y14, y15, y16, y17, y18, y19, y20, y21, y22]) (i := 8) HJ.out (by simp) (by omega) (by omega) (fun u hu => by simpa using hu) ⟨0, rfl⟩
          -- 9
          · have hx1 := HJ.out.2.2.1
            clear hp
            go_simp
            refine hK (.int .i64 k) w1 ?_
            exact BoxJ.step (vs := [y0, y1, y2, y3, y4, y5, y6, y7, y8, y9, y10, y11, y12, y13, y14, y15, y16, y17, y18, y19, y20, y21, y22]) (i := 9) HJ.out (by simp) (by omega) (by omega) (fun u hu => by simpa using hu) ⟨0, rfl⟩
          -- 10
          · obtain rfl : y8 = (.slice (some ⟨g, 0, none⟩) D D) := HJ.out.1 8 _ (hp 8 (by simp)) rfl
            obtain rfl : y9 = (.int .i64 k) := HJ.out.1 9 _ (hp 9 (by simp)) rfl
            clear hp
            go_simp
            refine hK (ptr g k) w1 ?_
            exact BoxJ.step (vs := [y0, y1, y2, y3, y4, y5, y6, y7, .slice (some ⟨g, 0, none⟩) D D, .int .i64 k, y10, y11, y12, y13, y14, y15, y16, y17, y18, y19, y20, y21, y22]) (i := 10) HJ.out (by simp) (by omega) (by omega) (fun u hu => by simpa using hu) ⟨0, rfl⟩
          -- 11
          · obtain rfl : y10 = (ptr g k) := HJ.out.1 10 _ (hp 10 (by simp)) rfl
            have f22 : f 22 = false := by
              cases h : f 22 with
              | false => rfl
              | true => rw [HJ.out.2.2.2.2.2.2 h] at hf; cases hf
            have ho := HJ.out.2.2.2.2.1
            rw [f22] at ho
            simp only [cond_false] at ho
            have hx1 := ho.cell (k := k) (by have := HHL.out; omega)
            rw [HGH.out] at hx1
            clear ho f22
            clear hp
            go_simp
            refine hK (.int .i64 x) w1 ?_
            exact BoxJ.step (vs := [y0, y1, y2, y3, y4, y5, y6, y7, y8, y9, ptr g k, y11, y12, y13, y14, y15, y16, y17, y18, y19, y20, y21, y22]) (i := 11) HJ.out (by simp) (by omega) (by omega) (fun u hu => by simpa using hu) ⟨0, rfl⟩
          -- 12
          · clear hp
            go_simp
            refine hK (.slice (some ad) M c) w1 ?_
            exact BoxJ.step (vs := [y0, y1, y2, y3, y4, y5, y6, y7, y8, y9, y10, y11, y12, y13, y14, y15, y16, y17, y18, y19, y20, y21, y22]) (i := 12) HJ.out (by simp) (by omega) (by omega) (fun u hu => by simpa using hu) ⟨0, rfl⟩
          -- 13
          · obtain rfl : y12 = (.slice (some ad) M c) := HJ.out.1 12 _ (hp 12 (by simp)) rfl
            clear hp
            by_cases h1 : c = 1
            · have HV : Hid (A1 = some ad) := by show _ = _; rw [HA1.out, if_pos h1]
              subst h1
              have hM1 : Hid (M - 1 = 0) := by show _ = _; omega
              go_simp
              refine hK _ w1 ?_
              exact BoxJ.step (vs := [y0, y1, y2, y3, y4, y5, y6, y7, y8, y9, y10, y11, .slice (some ad) M 1, y13, y14, y15, y16, y17, y18, y19, y20, y21, y22]) (i := 13) HJ.out (by simp) (by omega) (by omega) (fun u hu => by simp only [List.getElem?_cons_succ, List.getElem?_cons_zero, Option.some.injEq] at hu; rw [← hu, HV.out, hM1.out]) ⟨0, rfl⟩
            · have HV : Hid (A1 = some ⟨ad.block, ad.off + 1, none⟩) := by show _ = _; rw [HA1.out, if_neg h1]; rfl
              go_simp
              refine hK _ w1 ?_
              exact BoxJ.step (vs := [y0, y1, y2, y3, y4, y5, y6, y7, y8, y9, y10, y11, .slice (some ad) M c, y13, y14, y15, y16, y17, y18, y19, y20, y21, y22]) (i := 13) HJ.out (by simp) (by omega) (by omega) (fun u hu => by simp only [List.getElem?_cons_succ, List.getElem?_cons_zero, Option.some.injEq] at hu; rw [← hu, HV.out]) ⟨0, rfl⟩
          -- 14
          · clear hp
            go_simp
            refine hK (.func (.func 154) #[] #[ptr wr.heap.size 0]) w1 ?_
            exact BoxJ.step (vs := [y0, y1, y2, y3, y4, y5, y6, y7, y8, y9, y10, y11, y12, y13, y14, y15, y16, y17, y18, y19, y20, y21, y22]) (i := 14) HJ.out (by simp) (by omega) (by omega) (fun u hu => by simpa using hu) ⟨0, rfl⟩
          -- 15
          · obtain rfl : y7 = (.int .i64 x) := HJ.out.1 7 _ (hp 7 (by simp)) rfl
            obtain rfl : y11 = (.int .i64 x) := HJ.out.1 11 _ (hp 11 (by simp)) rfl
            obtain rfl : y13 = (.slice A1 (M - 1) (c - 1)) := HJ.out.1 13 _ (hp 13 (by simp)) rfl
            obtain rfl : y14 = (.func (.func 154) #[] #[ptr wr.heap.size 0]) := HJ.out.1 14 _ (hp 14 (by simp)) rfl
            have hb1 := HJ.out.2.1.1
            have hx1 := HJ.out.2.2.1
            have KE1 := Lib.hid (KE.out w1 hb1 hx1)
            clear hb1 hx1 hp
            go_wp2_with fail
            refine KE1.out.mono ?_
            rintro e w2' ⟨rfl, hw2⟩
            go_simp
            refine hK (.tuple #[.int .i64 x1, .int .i64 x2]) w2' ?_
            exact BoxJ.step (vs := [y0, y1, y2, y3, y4, y5, y6, .int .i64 x, y8, y9, y10, .int .i64 x, y12, .slice A1 (M - 1) (c - 1), .func (.func 154) #[] #[ptr wr.heap.size 0], y15, y16, y17, y18, y19, y20, y21, y22]) (i := 15) HJ.out (by simp) (by omega) (by omega) (fun u hu => by simpa using hu) hw2
          -- 16
          · obtain rfl : y15 = (.tuple #[.int .i64 x1, .int .i64 x2]) := HJ.out.1 15 _ (hp 15 (by simp)) rfl
            clear hp
            go_simp
            refine hK (.tuple #[.int .i64 x1, .int .i64 x2]) w1 ?_
            exact BoxJ.step (vs := [y0, y1, y2, y3, y4, y5, y6, y7, y8, y9, y10, y11, y12, y13, y14, .tuple #[.int .i64 x1, .int .i64 x2], y16, y17, y18, y19, y20, y21, y22]) (i := 16) HJ.out (by simp) (by omega) (by omega) (fun u hu => by simpa using hu) ⟨0, rfl⟩
          -- 17
          · obtain rfl : y16 = (.tuple #[.int .i64 x1, .int .i64 x2]) := HJ.out.1 16 _ (hp 16 (by simp)) rfl
            clear hp
            go_simp
            refine hK (.int .i64 x1) w1 ?_
            exact BoxJ.step (vs := [y0, y1, y2, y3, y4, y5, y6, y7, y8, y9, y10, y11, y12, y13, y14, y15, .tuple #[.int .i64 x1, .int .i64 x2], y17, y18, y19, y20, y21, y22]) (i := 17) HJ.out (by simp) (by omega) (by omega) (fun u hu => by simpa using hu) ⟨0, rfl⟩
          -- 18
          · obtain rfl : y16 = (.tuple #[.int .i64 x1, .int .i64 x2]) := HJ.out.1 16 _ (hp 16 (by simp)) rfl
            clear hp
            go_simp
            refine hK (.int .i64 x2) w1 ?_
            exact BoxJ.step (vs := [y0, y1, y2, y3, y4, y5, y6, y7, y8, y9, y10, y11, y12, y13, y14, y15, .tuple #[.int .i64 x1, .int .i64 x2], y17, y18, y19, y20, y21, y22]) (i := 18) HJ.out (by simp) (by omega) (by omega) (fun u hu => by simpa using hu) ⟨0, rfl⟩
          -- 19
          · obtain rfl : y0 = (.slice (some ⟨g1, 0, none⟩) D D) := HJ.out.1 0 _ (hp 0 (by simp)) rfl
            obtain rfl : y1 = (.int .i64 k) := HJ.out.1 1 _ (hp 1 (by simp)) rfl
            clear hp
            go_simp
            refine hK (ptr g1 k) w1 ?_
            exact BoxJ.step (vs := [.slice (some ⟨g1, 0, none⟩) D D, .int .i64 k, y2, y3, y4, y5, y6, y7, y8, y9, y10, y11, y12, y13, y14, y15, y16, y17, y18, y19, y20, y21, y22]) (i := 19) HJ.out (by simp) (by omega) (by omega) (fun u hu => by simpa using hu) ⟨0, rfl⟩
          -- 20
          · obtain rfl : y19 = (ptr g1 k) := HJ.out.1 19 _ (hp 19 (by simp)) rfl
            obtain rfl : y17 = (.int .i64 x1) := HJ.out.1 17 _ (hp 17 (by simp)) rfl
            have f7 := hp 7 (by simp)
            have hx1 := (HJ.out.2.2.2.1)
            rw [hf] at hx1
            simp only [cond_false] at hx1
            have hc1 := hx1.cell (k := k) (by have := HLL.out; omega)
            have hfr1 := hx1.free k
            clear hx1
            clear hp
            go_simp
            refine hK undef _ ?_
            exact BoxJ.store1 (vs := [y0, y1, y2, y3, y4, y5, y6, y7, y8, y9, y10, y11, y12, y13, y14, y15, y16, .int .i64 x1, y18, ptr g1 k, y20, y21, y22]) HJ.out (by simp) hf f7 (fun u hu => by simp at hu) (by have := HLL.out; omega) hne hga hg1
          -- 21
          · obtain rfl : y2 = (.slice (some ⟨g, 0, none⟩) D D) := HJ.out.1 2 _ (hp 2 (by simp)) rfl
            obtain rfl : y3 = (.int .i64 k) := HJ.out.1 3 _ (hp 3 (by simp)) rfl
            clear hp
            go_simp
            refine hK (ptr g k) w1 ?_
            exact BoxJ.step (vs := [y0, y1, .slice (some ⟨g, 0, none⟩) D D, .int .i64 k, y4, y5, y6, y7, y8, y9, y10, y11, y12, y13, y14, y15, y16, y17, y18, y19, y20, y21, y22]) (i := 21) HJ.out (by simp) (by omega) (by omega) (fun u hu => by simpa using hu) ⟨0, rfl⟩
          -- 22
          · obtain rfl : y21 = (ptr g k) := HJ.out.1 21 _ (hp 21 (by simp)) rfl
            obtain rfl : y18 = (.int .i64 x2) := HJ.out.1 18 _ (hp 18 (by simp)) rfl
            have f7 := hp 11 (by simp)
            have hx1 := (HJ.out.2.2.2.2.1)
            rw [hf] at hx1
            simp only [cond_false] at hx1
            have hc1 := hx1.cell (k := k) (by have := HHL.out; omega)
            have hfr1 := hx1.free k
            clear hx1
            clear hp
            go_simp
            refine hK undef _ ?_
            exact BoxJ.store2 (vs := [y0, y1, y2, y3, y4, y5, y6, y7, y8, y9, y10, y11, y12, y13, y14, y15, y16, y17, .int .i64 x2, y19, y20, ptr g k, y22]) HJ.out (by simp) hf f7 (fun u hu => by simp at hu) (by have := HHL.out; omega) (Ne.symm hne) hgb hg2
        · intro vs w1 hlen hj
          obtain ⟨y0, y1, y2, y3, y4, y5, y6, y7, y8, y9, y10, y11, y12, y13, y14, y15, y16, y17, y18, y19, y20, y21, y22, rfl⟩ := len23 hlen
          have HJ := Lib.hid hj
          clear hj hlen
          simp only [putAll, Act.put, List.setIfInBounds_toArray, List.set_cons_zero, List.set_cons_succ]
          obtain ⟨_, ⟨hb1, hb2⟩, _, ho1, ho2, _, _⟩ := HJ.out
          simp only [cond_true] at ho1 ho2
          have HO3 := Lib.hid ho1
          have HO4 := Lib.hid ho2
          have HB3 := Lib.hid hb1
          clear ho1 ho2 hb1 hb2
          go_wp2
          exact ⟨⟨k + 1, by omega, by go_num, (by show OwnI _ _ _; rw [← HSL.out]; exact HO3.out), (by show OwnI _ _ _; rw [← HSH.out]; exact HO4.out), HB3.out⟩, by first | (simp [intOf]; done) | (simp [intOf]; omega)⟩
      · obtain rfl : k = D := by omega
        have ho1 := HO1k.out
        have ho2 := HO2k.out
        rw [mixI_end] at ho1 ho2
        have HO5 := Lib.hid ho1
        have HO6 := Lib.hid ho2
        clear ho1 ho2
        go_wp2
        go_ret3
        refine (hG.out _ _).2 ?_
        rw [hDN.out]
        exact ⟨some ⟨g1, 0, none⟩, k, some ⟨g, 0, none⟩, k, (by rw [List.length_map, List.length_map, List.length_range]; rfl), by simp, by simp, HO5.out.lies, HO6.out.lies, HBk.out⟩
  · have hE0 : boxE R d = false := by simpa using hE
    have hch : chkV R d = 80 := by
      rcases chkV_or R d with g | g
      · exfalso
        obtain ⟨g1, g2⟩ := chkV_iff.1 g
        exact hE (by unfold boxE; rw [g2, decide_eq_true g1]; rfl)
      · exact g
    rw [hch] at K1
    have hG : Hid (∀ w', Below w.heap.size w w' → GivesBox R d w (.returned (.tuple #[.slice none 0 0, .slice none 0 0, .int .i64 80])) w') := fun w' hb => by
      unfold GivesBox boxLo boxHi boxC
      rw [hE0]
      exact ⟨none, 0, none, 0, rfl, by simp, by simp, Lies.nil, Lies.nil, hb⟩
    clear hA hR hE hE0 hch
    generalize R.length = M at *
    go_enter Try.func133, Try.ntmps133
    go_wp2_with fail
    refine K1.out.mono ?_
    rintro e w2 ⟨rfl, n, rfl⟩
    go_wp2
    go_ret3
    exact hG.out _ (below_drewN2 (Below.refl _ _) _)
end Go.Proofs.Ytehekdahlnpldaa
