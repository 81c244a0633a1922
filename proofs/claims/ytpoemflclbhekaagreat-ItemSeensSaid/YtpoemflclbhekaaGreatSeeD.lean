/- Layer 22 (item): seen events read: the numbers; checked, in the code. -/
import Derived.Test.YtpoemflclbhekaaGreatSeeC
namespace Go.Proofs.YtpoemflclbhekaaGreat
open Go.RowKit
set_option linter.unusedVariables false
set_option linter.unusedSimpArgs false

def rdE (b : List Int) : Nat → Nat × Int → (Nat × Int) × List Int
  | 0, s => (s, [])
  | n + 1, s => ((rU b (rdE b n s).1.1 (rdE b n s).1.2).1, (rdE b n s).2 ++ [unfoldI (rU b (rdE b n s).1.1 (rdE b n s).1.2).2])
theorem rdE_len (b : List Int) (s : Nat × Int) : ∀ n, (rdE b n s).2.length = n
  | 0 => rfl
  | n + 1 => by show ((rdE b n s).2 ++ [_]).length = n + 1; rw [List.length_append, rdE_len b s n]; rfl
/-- the score behind a mark -/
def gM (b : List Int) (f : (Nat × Int) × Nat) : (Nat × Int) × (Int × Int) := if f.2 = 1 then gS b f.1.1 f.1.2 else (f.1, (0, 0))
def finE (id : Int) (X : List Int) (sc : Bool) (dim : Int) (m : (Nat × Int) × (Int × Int)) : (Nat × Int) × (Int × List Int × Int × Int × Bool) :=
  ((m.1.1, chkF (rsB id X m.2.1 m.2.2 sc dim) m.1.2), if chkF (rsB id X m.2.1 m.2.2 sc dim) m.1.2 = 0 then (id, X, m.2.1, m.2.2, sc) else (0, [], 0, 0, false))
def gE1 (b : List Int) (s : Nat × Int) (dim : Int) : (Nat × Int) × (Int × List Int × Int × Int × Bool) :=
  finE ((rN b s.1 s.2 1099511627776).2 : Nat) (rdE b dim.toNat (rN b s.1 s.2 1099511627776).1).2 (decide ((rN b (rdE b dim.toNat (rN b s.1 s.2 1099511627776).1).1.1 (rdE b dim.toNat (rN b s.1 s.2 1099511627776).1).1.2 1).2 = 1)) dim (gM b (rN b (rdE b dim.toNat (rN b s.1 s.2 1099511627776).1).1.1 (rdE b dim.toNat (rN b s.1 s.2 1099511627776).1).1.2 1))
/-- what is read of a seen event -/
def gE (b : List Int) (s : Nat × Int) (dim : Int) : (Nat × Int) × (Int × List Int × Int × Int × Bool) := if 1 ≤ dim ∧ dim ≤ 8 then gE1 b s dim else ((s.1, failE s.2 211), (0, [], 0, 0, false))
theorem gS_at {b : List Int} (hb : byt b) {k : Nat} {e : Int} (h : (gS b k e).1.2 = 0) : e = 0 ∧ k < (gS b k e).1.1 ∧ (gS b k e).1.1 ≤ b.length ∧ scW (gS b k e).2.1 (gS b k e).2.2 = (b.drop k).take ((gS b k e).1.1 - k) := by
  have h : chkF (scoB ((rN b k e 274877906944).2 : Nat) ((rN b (rN b k e 274877906944).1.1 (rN b k e 274877906944).1.2 1099511627776).2 : Nat)) (rN b (rN b k e 274877906944).1.1 (rN b k e 274877906944).1.2 1099511627776).1.2 = 0 := h
  obtain ⟨hr, h0⟩ := chk_zero h
  obtain ⟨g0, g1, g2, g3⟩ := at_N hb h0
  obtain ⟨i0, i1, i2, i3⟩ := at_N hb g0
  refine ⟨i0, by show k < (rN b (rN b k e 274877906944).1.1 (rN b k e 274877906944).1.2 1099511627776).1.1; omega, g2, ?_⟩
  show scW (if chkF _ _ = 0 then (_, _) else (0, 0)).1 (if chkF _ _ = 0 then (_, _) else (0, 0)).2 = (b.drop k).take ((rN b (rN b k e 274877906944).1.1 (rN b k e 274877906944).1.2 1099511627776).1.1 - k)
  rw [if_pos h]
  unfold scW
  rw [if_pos hr]
  unfold scB nB
  rw [List.flatMap_cons, List.flatMap_cons, List.flatMap_nil, List.append_nil, Int.toNat_natCast, Int.toNat_natCast, i3, g3, ← take_two b (Nat.le_of_lt i1) (Nat.le_of_lt g1)]
theorem rdE_e (b : List Int) (s : Nat × Int) : ∀ n, (rdE b n s).1.2 = 0 → s.2 = 0
  | 0, h => h
  | n + 1, h => by
    have h : (rU b (rdE b n s).1.1 (rdE b n s).1.2).1.2 = 0 := h
    by_cases h0 : (rdE b n s).1.2 = 0
    · exact rdE_e b s n h0
    · rw [rU_e h0] at h; exact absurd h h0
theorem rdE_at {b : List Int} (hb : byt b) (s : Nat × Int) (hs : s.1 ≤ b.length) : ∀ n, (rdE b n s).1.2 = 0 → s.2 = 0 ∧ s.1 ≤ (rdE b n s).1.1 ∧ (rdE b n s).1.1 ≤ b.length ∧ (rdE b n s).2.flatMap iB = (b.drop s.1).take ((rdE b n s).1.1 - s.1)
  | 0, h => ⟨h, Nat.le_refl _, hs, by show [] = (b.drop s.1).take (s.1 - s.1); simp⟩
  | n + 1, h => by
    have h : (rU b (rdE b n s).1.1 (rdE b n s).1.2).1.2 = 0 := h
    have he : (rdE b n s).1.2 = 0 := by
      by_cases h0 : (rdE b n s).1.2 = 0
      · exact h0
      · rw [rU_e h0] at h; exact h
    obtain ⟨i0, i1, i2, i3⟩ := rdE_at hb s hs n he
    rw [he] at h
    obtain ⟨g1, g2, g3⟩ := rU_ok hb h
    have e1 : (rdE b (n + 1) s).1.1 = (rU b (rdE b n s).1.1 0).1.1 := by show (rU b (rdE b n s).1.1 (rdE b n s).1.2).1.1 = _; rw [he]
    have e2 : (rdE b (n + 1) s).2 = (rdE b n s).2 ++ [unfoldI (rU b (rdE b n s).1.1 0).2] := by show (rdE b n s).2 ++ [unfoldI (rU b (rdE b n s).1.1 (rdE b n s).1.2).2] = _; rw [he]
    rw [e1, e2]
    refine ⟨i0, by omega, g2, ?_⟩
    rw [List.flatMap_append, i3, List.flatMap_cons, List.flatMap_nil, List.append_nil]
    unfold iB
    rw [fold_unfold, g3, ← take_two b i1 (Nat.le_of_lt g1)]
theorem gE_one {b : List Int} (hb : byt b) (dim : Int) (h : (gE b (0, 0) dim).1.2 = 0) : 0 < (gE b (0, 0) dim).1.1 ∧ (gE b (0, 0) dim).1.1 ≤ b.length ∧ eW (gE b (0, 0) dim).2.1 (gE b (0, 0) dim).2.2.1 (gE b (0, 0) dim).2.2.2.1 (gE b (0, 0) dim).2.2.2.2.1 (gE b (0, 0) dim).2.2.2.2.2 dim = b.take (gE b (0, 0) dim).1.1 := by
  unfold gE at h ⊢
  by_cases hd : 1 ≤ dim ∧ dim ≤ 8
  case neg =>
    rw [if_neg hd] at h
    exact absurd h (by show ¬ failE 0 211 = 0; decide)
  rw [if_pos hd] at h ⊢
  unfold gE1 at h ⊢
  have hN : (rN b (0, (0 : Int)).1 (0, (0 : Int)).2 1099511627776).1.2 = 0 → _ := @at_N b hb 0 0 1099511627776
  obtain ⟨r, hr⟩ : ∃ r, r = rN b (0, (0 : Int)).1 (0, (0 : Int)).2 1099511627776 := ⟨_, rfl⟩
  have hN : r.1.2 = 0 → (0 : Int) = 0 ∧ 0 < r.1.1 ∧ r.1.1 ≤ b.length ∧ uB r.2 = (b.drop 0).take (r.1.1 - 0) := by rw [hr]; exact hN
  rw [← hr] at h ⊢
  clear hr
  obtain ⟨⟨k1, e1⟩, id⟩ := r
  simp only at h hN ⊢
  have hX := fun hs => @rdE_at b hb (k1, e1) hs dim.toNat
  have hE1 := rdE_e b (k1, e1) dim.toNat
  generalize rdE b dim.toNat (k1, e1) = x at *
  obtain ⟨⟨k2, e2⟩, X⟩ := x
  simp only at h hX hE1 ⊢
  have hF := @at_N b hb k2 e2 1
  have hF1 := @rN_bd b k2 e2 1
  generalize rN b k2 e2 1 = f at *
  obtain ⟨⟨k3, e3⟩, m⟩ := f
  simp only at h hF hF1 ⊢
  have hM : (gM b ((k3, e3), m)).1.2 = 0 → e3 = 0 ∧ k3 ≤ (gM b ((k3, e3), m)).1.1 ∧ (k3 ≤ b.length → (gM b ((k3, e3), m)).1.1 ≤ b.length) ∧ (if m = 1 then scW (gM b ((k3, e3), m)).2.1 (gM b ((k3, e3), m)).2.2 else []) = (b.drop k3).take ((gM b ((k3, e3), m)).1.1 - k3) := by
    unfold gM
    by_cases hm : m = 1
    · rw [if_pos hm, if_pos hm]
      intro h
      obtain ⟨g0, g1, g2, g3⟩ := gS_at hb h
      exact ⟨g0, Nat.le_of_lt g1, fun _ => g2, g3⟩
    · rw [if_neg hm, if_neg hm]
      intro h
      exact ⟨h, Nat.le_refl _, fun h => h, by show [] = (b.drop k3).take (k3 - k3); simp⟩
  generalize gM b ((k3, e3), m) = g at *
  obtain ⟨⟨k4, e4⟩, p, q⟩ := g
  simp only at h hM ⊢
  unfold finE at h ⊢
  simp only at h ⊢
  obtain ⟨hr, h4⟩ := chk_zero h
  rw [if_pos h]
  obtain ⟨h3, a3, b3, c3⟩ := hM h4
  obtain ⟨h2, a2, b2, c2⟩ := hF h3
  have hm1 : (m : Int) ≤ 1 := (hF1 h3).1
  have h1 : e1 = 0 := hE1 h2
  obtain ⟨-, a0, b0, c0⟩ := hN h1
  obtain ⟨-, a1, b1, c1⟩ := hX b0 h2
  refine ⟨by show 0 < k4; omega, b3 b2, ?_⟩
  show eW id X p q (decide (m = 1)) dim = b.take k4
  unfold eW
  rw [if_pos hr]
  unfold eB
  rw [Int.toNat_natCast, c0, c1]
  have hmm : (if decide (m = 1) = true then uB 1 ++ scW p q else uB 0) = uB m ++ (if m = 1 then scW p q else []) := by
    by_cases hm : m = 1
    · rw [hm]; rfl
    · have : m = 0 := by omega
      rw [this]; rfl
  rw [hmm, c2, c3, ← take_two b (Nat.le_of_lt a2) a3, ← take_two b (Nat.le_of_lt a0) a1, ← take_two b (by omega) (by omega)]
  simp
set_option maxRecDepth 100000 in
set_option maxHeartbeats 4000000 in
theorem it_checkedE (id p q : Int) (sc : Bool) (gd : Nat) (AX : Option Addr) (NX cX : Nat) (R : Bool) (b : List Int) (B g k' : Nat) (e : Int) (w : World) (hR : RdAt w B g b k' e)
    (KR : Hid (∀ W, Below w.heap.size w W → Calls Tryz.prog 70 #[.agg #[.int .i64 id, .slice AX NX cX, .int .i64 p, .int .i64 q, .bool sc], .pointer (some ⟨gd, 0, none⟩)] W fun e w' => e = .returned (.bool R) ∧ Below W.heap.size W w')) :
    Calls Tryz.prog 46 #[.pointer (some ⟨g, 0, none⟩), .agg #[.int .i64 id, .slice AX NX cX, .int .i64 p, .int .i64 q, .bool sc], .func (.func 70) #[] #[.pointer (some ⟨gd, 0, none⟩)]] w fun r w' => r = .returned (if chkF R e = 0 then .agg #[.int .i64 id, .slice AX NX cX, .int .i64 p, .int .i64 q, .bool sc] else .agg #[.int .i64 0, .slice none 0 0, .int .i64 0, .int .i64 0, .bool false]) ∧ RdAt w' B g b k' (chkF R e) ∧ Wr g w w' := by
  obtain ⟨hg, hBg, hk, hbl, hby⟩ := hR.lt
  have hb1 := ((Below.refl w.heap.size w).alloc (Nat.le_refl _) (.cells #[.int .i64 id, .slice AX NX cX, .int .i64 p, .int .i64 q, .bool sc] 41))
  have hb2 := hb1.alloc hb1.size (.cells #[.int .i64 0, .slice none 0 0, .int .i64 0, .int .i64 0, .bool false] 41)
  have HX0 := Lib.hid ((Box.new w #[.int .i64 id, .slice AX NX cX, .int .i64 p, .int .i64 q, .bool sc] 41).alloc (.cells #[.int .i64 0, .slice none 0 0, .int .i64 0, .int .i64 0, .bool false] 41))
  have hx1 := Box.new (w.alloc (.cells #[.int .i64 id, .slice AX NX cX, .int .i64 p, .int .i64 q, .bool sc] 41)) #[.int .i64 0, .slice none 0 0, .int .i64 0, .int .i64 0, .bool false] 41
  rw [alloc_size'] at hx1
  have HX1 := Lib.hid hx1
  have HR := Lib.hid (hR.below hb2)
  have HB := Lib.hid hb2
  have KR2 := Lib.hid (KR.out _ hb2)
  have HRF := Lib.hid (fun W (h : RdAt W B g b k' e) => rd_Fail h 211)
  have HRE := Lib.hid (fun W e2 (h : RdAt W B g b k' e2) => rd_Err h)
  have hn1 : ¬ w.heap.size = g := by omega
  have hn2 : ¬ w.heap.size + 1 = g := by omega
  clear hR hb1 hb2 hx1 KR
  cases R
  · have hf : chkF false e = failE e 211 := rfl
    have hne : ¬ failE e 211 = 0 := by unfold failE; split <;> simp_all
    rw [hf, if_neg hne]
    have hneb : (failE e 211 == 0) = false := by simpa using hne
    have hneb2 : (failE e 211 != 0) = true := by simpa using hne
    clear hf hne
    generalize failE e 211 = E at *
    go_enter Tryz.func46, Tryz.ntmps46
    go_wp2_with fail
    refine (KR2.out).mono ?_
    rintro r w1 ⟨rfl, b1⟩
    have HR1 := Lib.hid (HR.out.below b1)
    have HX1 := Lib.hid (HX1.out.below b1 HX1.out.lt)
    have HB := Lib.hid (HB.out.trans (b1.mono HB.out.size))
    clear b1 HX0
    go_wp2_with fail
    refine (HRF.out w1 HR1.out).mono ?_
    rintro r w2 ⟨rfl, h1, h2⟩
    have HR2 := Lib.hid h1
    have HX1 := Lib.hid (h2.box HX1.out hn2)
    have HW := Lib.hid ((Wr.of g HB.out).trans h2)
    clear h1 h2 HR1
    go_wp2_with fail
    refine (HRE.out w2 _ HR2.out).mono ?_
    rintro r w3 ⟨rfl, rfl⟩
    have hal := (Below.refl w2.heap.size w2).alloc (Nat.le_refl _) (.cells #[.int .i64 0, .slice none 0 0, .int .i64 0, .int .i64 0, .bool false] 41)
    have HX1 := Lib.hid (HX1.out.below hal HX1.out.lt)
    have HR3 := Lib.hid (HR2.out.below hal)
    have HW := Lib.hid (HW.out.trans (Wr.of g hal))
    obtain ⟨x0, x1, x2, x3, x4⟩ := HX1.out.five
    obtain ⟨y0, y1, y2, y3, y4⟩ := HX1.out.frees
    have hlt := HX1.out.lt
    rw [alloc_size'] at hlt
    clear hal
    go_wp2
    have s0 := (HX1.out.set 0 (.int .i64 0)).cell 0
    have s1 := ((HX1.out.set 0 (.int .i64 0)).set 1 (.slice none 0 0)).cell 1
    have s2 := (((HX1.out.set 0 (.int .i64 0)).set 1 (.slice none 0 0)).set 2 (.int .i64 0)).cell 2
    have s3 := ((((HX1.out.set 0 (.int .i64 0)).set 1 (.slice none 0 0)).set 2 (.int .i64 0)).set 3 (.int .i64 0)).cell 3
    have s4 := (((((HX1.out.set 0 (.int .i64 0)).set 1 (.slice none 0 0)).set 2 (.int .i64 0)).set 3 (.int .i64 0)).set 4 (.bool false)).cell 4
    refine bodyPost_ret (v := .agg #[.int .i64 0, .slice none 0 0, .int .i64 0, .int .i64 0, .bool false]) (by simp [results, Tryz.results46, go_sem, s0, s1, s2, s3, s4]) rfl ⟨rfl, ?_, ?_⟩
    · exact (((((HR3.out.wr (Wr.set (w.heap.size + 1) 0 _ _) (.inr (by omega))).wr (Wr.set (w.heap.size + 1) 1 _ _) (.inr (by omega))).wr (Wr.set (w.heap.size + 1) 2 _ _) (.inr (by omega))).wr (Wr.set (w.heap.size + 1) 3 _ _) (.inr (by omega))).wr (Wr.set (w.heap.size + 1) 4 _ _) (.inr (by omega)))
    · exact (((((HW.out.setNewI (p := ⟨w.heap.size + 1, 0, none⟩) (by show w.heap.size ≤ w.heap.size + 1; omega) _).setNewI (p := ⟨w.heap.size + 1, 1, none⟩) (by show w.heap.size ≤ w.heap.size + 1; omega) _).setNewI (p := ⟨w.heap.size + 1, 2, none⟩) (by show w.heap.size ≤ w.heap.size + 1; omega) _).setNewI (p := ⟨w.heap.size + 1, 3, none⟩) (by show w.heap.size ≤ w.heap.size + 1; omega) _).setNewI (p := ⟨w.heap.size + 1, 4, none⟩) (by show w.heap.size ≤ w.heap.size + 1; omega) _)
  · have hf : chkF true e = e := rfl
    rw [hf]
    clear hf HRF
    by_cases he : e = 0
    · subst he
      rw [if_pos rfl]
      go_enter Tryz.func46, Tryz.ntmps46
      go_wp2_with fail
      refine (KR2.out).mono ?_
      rintro r w1 ⟨rfl, b1⟩
      have HR1 := Lib.hid (HR.out.below b1)
      have HX0 := Lib.hid (HX0.out.below b1 HX0.out.lt)
      have HX1 := Lib.hid (HX1.out.below b1 HX1.out.lt)
      have HW := Lib.hid (Wr.of g (HB.out.trans (b1.mono HB.out.size)))
      clear b1
      go_wp2_with fail
      refine (HRE.out w1 _ HR1.out).mono ?_
      rintro r w3 ⟨rfl, rfl⟩
      obtain ⟨z0, z1, z2, z3, z4⟩ := HX0.out.five
      obtain ⟨x0, x1, x2, x3, x4⟩ := HX1.out.five
      obtain ⟨y0, y1, y2, y3, y4⟩ := HX1.out.frees
      go_wp2
      have s0 := (HX1.out.set 0 (.int .i64 id)).cell 0
      have s1 := ((HX1.out.set 0 (.int .i64 id)).set 1 (.slice AX NX cX)).cell 1
      have s2 := (((HX1.out.set 0 (.int .i64 id)).set 1 (.slice AX NX cX)).set 2 (.int .i64 p)).cell 2
      have s3 := ((((HX1.out.set 0 (.int .i64 id)).set 1 (.slice AX NX cX)).set 2 (.int .i64 p)).set 3 (.int .i64 q)).cell 3
      have s4 := (((((HX1.out.set 0 (.int .i64 id)).set 1 (.slice AX NX cX)).set 2 (.int .i64 p)).set 3 (.int .i64 q)).set 4 (.bool sc)).cell 4
      refine bodyPost_ret (v := .agg #[.int .i64 id, .slice AX NX cX, .int .i64 p, .int .i64 q, .bool sc]) (by simp [results, Tryz.results46, go_sem, s0, s1, s2, s3, s4]) rfl ⟨rfl, ?_, ?_⟩
      · exact (((((HR1.out.wr (Wr.set (w.heap.size + 1) 0 _ _) (.inr (by omega))).wr (Wr.set (w.heap.size + 1) 1 _ _) (.inr (by omega))).wr (Wr.set (w.heap.size + 1) 2 _ _) (.inr (by omega))).wr (Wr.set (w.heap.size + 1) 3 _ _) (.inr (by omega))).wr (Wr.set (w.heap.size + 1) 4 _ _) (.inr (by omega)))
      · exact (((((HW.out.setNewI (p := ⟨w.heap.size + 1, 0, none⟩) (by show w.heap.size ≤ w.heap.size + 1; omega) _).setNewI (p := ⟨w.heap.size + 1, 1, none⟩) (by show w.heap.size ≤ w.heap.size + 1; omega) _).setNewI (p := ⟨w.heap.size + 1, 2, none⟩) (by show w.heap.size ≤ w.heap.size + 1; omega) _).setNewI (p := ⟨w.heap.size + 1, 3, none⟩) (by show w.heap.size ≤ w.heap.size + 1; omega) _).setNewI (p := ⟨w.heap.size + 1, 4, none⟩) (by show w.heap.size ≤ w.heap.size + 1; omega) _)
    · rw [if_neg he]
      have hneb : (e == 0) = false := by simpa using he
      have hneb2 : (e != 0) = true := by simpa using he
      clear he
      go_enter Tryz.func46, Tryz.ntmps46
      go_wp2_with fail
      refine (KR2.out).mono ?_
      rintro r w2 ⟨rfl, b1⟩
      have HR2 := Lib.hid (HR.out.below b1)
      have HX1 := Lib.hid (HX1.out.below b1 HX1.out.lt)
      have HW := Lib.hid (Wr.of g (HB.out.trans (b1.mono HB.out.size)))
      clear b1 HX0
      go_wp2_with fail
      refine (HRE.out w2 _ HR2.out).mono ?_
      rintro r w3 ⟨rfl, rfl⟩
      have hal := (Below.refl w2.heap.size w2).alloc (Nat.le_refl _) (.cells #[.int .i64 0, .slice none 0 0, .int .i64 0, .int .i64 0, .bool false] 41)
      have HX1 := Lib.hid (HX1.out.below hal HX1.out.lt)
      have HR3 := Lib.hid (HR2.out.below hal)
      have HW := Lib.hid (HW.out.trans (Wr.of g hal))
      obtain ⟨x0, x1, x2, x3, x4⟩ := HX1.out.five
      obtain ⟨y0, y1, y2, y3, y4⟩ := HX1.out.frees
      have hlt := HX1.out.lt
      rw [alloc_size'] at hlt
      clear hal
      go_wp2
      have s0 := (HX1.out.set 0 (.int .i64 0)).cell 0
      have s1 := ((HX1.out.set 0 (.int .i64 0)).set 1 (.slice none 0 0)).cell 1
      have s2 := (((HX1.out.set 0 (.int .i64 0)).set 1 (.slice none 0 0)).set 2 (.int .i64 0)).cell 2
      have s3 := ((((HX1.out.set 0 (.int .i64 0)).set 1 (.slice none 0 0)).set 2 (.int .i64 0)).set 3 (.int .i64 0)).cell 3
      have s4 := (((((HX1.out.set 0 (.int .i64 0)).set 1 (.slice none 0 0)).set 2 (.int .i64 0)).set 3 (.int .i64 0)).set 4 (.bool false)).cell 4
      refine bodyPost_ret (v := .agg #[.int .i64 0, .slice none 0 0, .int .i64 0, .int .i64 0, .bool false]) (by simp [results, Tryz.results46, go_sem, s0, s1, s2, s3, s4]) rfl ⟨rfl, ?_, ?_⟩
      · exact (((((HR3.out.wr (Wr.set (w.heap.size + 1) 0 _ _) (.inr (by omega))).wr (Wr.set (w.heap.size + 1) 1 _ _) (.inr (by omega))).wr (Wr.set (w.heap.size + 1) 2 _ _) (.inr (by omega))).wr (Wr.set (w.heap.size + 1) 3 _ _) (.inr (by omega))).wr (Wr.set (w.heap.size + 1) 4 _ _) (.inr (by omega)))
      · exact (((((HW.out.setNewI (p := ⟨w.heap.size + 1, 0, none⟩) (by show w.heap.size ≤ w.heap.size + 1; omega) _).setNewI (p := ⟨w.heap.size + 1, 1, none⟩) (by show w.heap.size ≤ w.heap.size + 1; omega) _).setNewI (p := ⟨w.heap.size + 1, 2, none⟩) (by show w.heap.size ≤ w.heap.size + 1; omega) _).setNewI (p := ⟨w.heap.size + 1, 3, none⟩) (by show w.heap.size ≤ w.heap.size + 1; omega) _).setNewI (p := ⟨w.heap.size + 1, 4, none⟩) (by show w.heap.size ≤ w.heap.size + 1; omega) _)
end Go.Proofs.YtpoemflclbhekaaGreat
