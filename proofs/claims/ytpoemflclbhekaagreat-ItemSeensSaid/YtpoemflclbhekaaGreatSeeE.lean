/- Layer 22 (item): seen events read, in the code: GetSeen. -/
import Derived.Test.YtpoemflclbhekaaGreatSeeD
import Derived.Deep.OwnRows
import Derived.Great.BuildSlice
import Derived.Laws.CopyOwn
namespace Go.Proofs.YtpoemflclbhekaaGreat
open Go.RowKit
set_option linter.unusedVariables false
set_option linter.unusedSimpArgs false

def GivesE (B g : Nat) (b : List Int) (out : (Nat × Int) × (Int × List Int × Int × Int × Bool)) (w : World) (r : Ending) (w' : World) : Prop :=
  ∃ A c, r = .returned (.agg #[.int .i64 out.2.1, .slice A out.2.2.1.length c, .int .i64 out.2.2.2.1, .int .i64 out.2.2.2.2.1, .bool out.2.2.2.2.2]) ∧
    Lies w' w'.heap.size A out.2.2.1 ∧ RdAt w' B g b out.1.1 out.1.2 ∧ Wr g w w'
theorem len7e {vs : List Value} (h : vs.length = 7) : ∃ y0 y1 y2 y3 y4 y5 y6, vs = [y0, y1, y2, y3, y4, y5, y6] := by
  match vs, h with
  | [y0, y1, y2, y3, y4, y5, y6], _ => exact ⟨_, _, _, _, _, _, _, rfl⟩
/-- the region that makes the event -/
structure Gs4J (g B : Nat) (b : List Int) (k : Nat) (e : Int) (k1 : Nat) (e1 : Int) (W0 : World) (D a : Nat) (ZD : Array Value) (f : Nat → Bool) (vs : List Value) (X : World) : Prop where
  rv : RegV [some (.pointer (some ⟨g, 0, none⟩)), some (.int .i64 (a : Nat)), some (.int .i64 (D : Nat)), none, none, none, none] f vs
  wr : Wr g W0 X
  rd : RdAt X B g b (cond (f 1) k1 k) (cond (f 1) e1 e)
  p3 : f 3 = true → ∃ g3, vs.getD 3 undef = .slice (some ⟨g3, 0, none⟩) D D ∧ W0.heap.size ≤ g3 ∧ Box X g3 ZD 3
  p4 : f 4 = true → f 3 = true ∧ vs.getD 4 undef = .agg #[.int .i64 (a : Nat), vs.getD 3 undef, .int .i64 0, .int .i64 0, .bool false]
  p5 : f 5 = true → ∃ g5 cs, vs.getD 5 undef = .pointer (some ⟨g5, 0, none⟩) ∧ W0.heap.size ≤ g5 ∧ cs.size = 5 ∧ Box X g5 cs 41 ∧ (f 6 = true → cs = #[.int .i64 (a : Nat), vs.getD 3 undef, .int .i64 0, .int .i64 0, .bool false])
  p6 : f 6 = true → f 5 = true ∧ f 3 = true
/-- the region that reads a number of the event -/
structure Gs8J (g B : Nat) (b : List Int) (k : Nat) (e : Int) (k1 : Nat) (e1 : Int) (w : World) (D i g3 g5 n : Nat) (x : Int) (S Zn Z : Array Value) (f : Nat → Bool) (vs : List Value) (X : World) : Prop where
  rv : RegV [some (.pointer (some ⟨g5, 1, none⟩)), some (.slice (some ⟨g3, 0, none⟩) D D), some (.int .i64 (i : Nat)), some (.pointer (some ⟨g, 0, none⟩)), some (.int .i64 x), some (.pointer (some ⟨g3, i, none⟩)), none] f vs
  wr : Wr g w X
  rd : RdAt X B g b (cond (f 4) k1 k) (cond (f 4) e1 e)
  b5 : Box X g5 S 41
  bn : Box X n Zn 41
  b3 : Box X g3 (cond (f 6) (Z.setIfInBounds i (.int .i64 x)) Z) 3
theorem info_seen : (Tryz.prog.info? 41).map (·.size) = some 5 := by kernel_rfl
theorem gS_i64 (b : List Int) (k : Nat) (e : Int) : I64 (gS b k e).2.1 ∧ I64 (gS b k e).2.2 := by
  show I64 (if _ = (0 : Int) then (_, _) else ((0 : Int), (0 : Int))).1 ∧ I64 (if _ = (0 : Int) then (_, _) else ((0 : Int), (0 : Int))).2
  split
  · exact ⟨rN_i64 (by unfold I64; omega), rN_i64 (by unfold I64; omega)⟩
  · exact ⟨by unfold I64; omega, by unfold I64; omega⟩
theorem info_i8 : (Tryz.prog.info? 3).map (fun i => (i.zero, i.size, i.bytes)) = some (some (.int .i64 0), 1, 8) := by kernel_rfl
set_option maxRecDepth 2000000 in
set_option maxHeartbeats 16000000 in
theorem it_GetSeen_ok (b : List Int) (B g k : Nat) (e : Int) (D : Nat) (hD : 1 ≤ D ∧ D ≤ 8) (w : World) (hR : RdAt w B g b k e) : Calls Tryz.prog 17 #[.pointer (some ⟨g, 0, none⟩), .int .i64 (D : Nat)] w (GivesE B g b (gE1 b (k, e) (D : Nat)) w) := by
  have i1 : I64 1 := by unfold I64; omega
  have i2 : I64 1099511627776 := by unfold I64; omega
  have hgw := hR.lt.1
  have hb1 := (Below.refl w.heap.size w).alloc (Nat.le_refl _) (.cells #[.int .i64 0, .slice none 0 0, .int .i64 0, .int .i64 0, .bool false] 41)
  have hb2 := hb1.alloc hb1.size (.cells #[.int .i64 (D : Nat)] 3)
  have hx0 := (Box.new w #[.int .i64 0, .slice none 0 0, .int .i64 0, .int .i64 0, .bool false] 41).alloc (.cells #[.int .i64 (D : Nat)] 3)
  have hl := Box.new (w.alloc (.cells #[.int .i64 0, .slice none 0 0, .int .i64 0, .int .i64 0, .bool false] 41)) #[.int .i64 (D : Nat)] 3
  rw [alloc_size'] at hl
  have KW := Lib.hid (it_within 1 8 [(D : Nat)] (some ⟨w.heap.size + 1, 0, none⟩) 1 _ _ (boxLies hl rfl) (by simp))
  rw [show inB 1 8 [((D : Nat) : Int)] = true from by unfold inB; simp; omega] at KW
  have HR := Lib.hid (hR.below hb2)
  have HW0 := Lib.hid (Wr.of g hb2)
  have HX0 := Lib.hid hx0
  have HGL : Hid (g < ((w.alloc (.cells #[.int .i64 0, .slice none 0 0, .int .i64 0, .int .i64 0, .bool false] 41)).alloc (.cells #[.int .i64 (D : Nat)] 3)).heap.size) := (hR.below hb2).lt.1
  have HGN : Hid (g ≠ w.heap.size) := by show _ ≠ _; omega
  have HS2 : Hid (w.heap.size + 2 ≤ ((w.alloc (.cells #[.int .i64 0, .slice none 0 0, .int .i64 0, .int .i64 0, .bool false] 41)).alloc (.cells #[.int .i64 (D : Nat)] 3)).heap.size) := by show _ ≤ _; rw [alloc_size', alloc_size']; exact Nat.le_refl _
  have KN0 := Lib.hid (fun W (h : RdAt W B g b k e) => rd_N 1099511627776 i2 h)
  obtain ⟨ZD, hZD⟩ : ∃ ZD, ZD = madeCells #[Value.int .i64 0] D := ⟨_, rfl⟩
  have HMK : Hid (∀ W : World, (Instr.makeSlice 39 (.int .i64 (D : Nat)) (.int .i64 (D : Nat))).run Tryz.prog W = .ok (.slice (some ⟨W.heap.size, 0, none⟩) D D) (W.alloc (.cells ZD 3))) := fun W => by
    rw [hZD]
    exact run_make_row' 39 3 (.int .i64 0) 8 Tryz.underlying39 info_i8 rfl .i64 .i64 D (by omega) (by omega) W
  have HZD : Hid (ZD = (litI ([] ++ List.replicate D 0)).toArray) := by
    show _ = _
    rw [hZD]
    apply Array.toList_inj.1
    rw [List.nil_append]
    have := made_ints D
    rw [Nat.mul_one] at this
    exact this
  have HGE : Hid (gE1 b (k, e) (D : Nat) = finE ((rN b k e 1099511627776).2 : Nat) (rdE b D (rN b k e 1099511627776).1).2 (decide ((rN b (rdE b D (rN b k e 1099511627776).1).1.1 (rdE b D (rN b k e 1099511627776).1).1.2 1).2 = 1)) (D : Nat) (gM b (rN b (rdE b D (rN b k e 1099511627776).1).1.1 (rdE b D (rN b k e 1099511627776).1).1.2 1))) := by
    show _ = _
    unfold gE1
    rw [Int.toNat_natCast]
  clear hb1 hb2 hx0 hl hR hZD
  generalize gE1 b (k, e) (D : Nat) = out at *
  obtain ⟨rn, hrn⟩ : ∃ rn, rn = rN b k e 1099511627776 := ⟨_, rfl⟩
  have KN0 := KN0
  rw [← hrn] at HGE KN0
  clear hrn
  obtain ⟨⟨k1, e1⟩, a⟩ := rn
  simp only at HGE KN0
  go_enter Tryz.func17, Tryz.ntmps17
  go_wp2_with fail
  refine (KW.out).mono ?_
  rintro r wq ⟨rfl, rfl⟩
  have KN := KN0
  clear KW
  go_upto_region 4 with fail
  generalize (w.alloc (.cells #[.int .i64 0, .slice none 0 0, .int .i64 0, .int .i64 0, .bool false] 41)).alloc (.cells #[.int .i64 (D : Nat)] 3) = W0 at *
  refine wp_region_steps (Gs4J g B b k e k1 e1 W0 D a ZD) [[], [0], [], [2, 2], [1, 3], [], [5, 4, 1, 0, 1, 2, 3, 4, 5]] (by kernel_rfl) (by kernel_rfl) (by kernel_rfl) (by kernel_rfl) ?_ ?_ ?_ ?_
  · intro f f' vs X hfg h
    have e1 := hfg 1 (by decide); have e3 := hfg 3 (by decide); have e4 := hfg 4 (by decide); have e5 := hfg 5 (by decide); have e6 := hfg 6 (by decide)
    refine ⟨fun j u hj he => h.rv j u ((hfg j (by have := (List.getElem?_eq_some_iff.1 he).1; simpa using this)).trans hj) he, h.wr, by rw [← e1]; exact h.rd, by rw [← e3]; exact h.p3, by rw [← e3, ← e4]; exact h.p4, by rw [← e5, ← e6]; exact h.p5, by rw [← e5, ← e3, ← e6]; exact h.p6⟩
  · intro vs _
    exact ⟨fun j u h => (by cases h), Wr.of g ((Below.refl _ _).drew), HR.out.below ((Below.refl _ _).drew), fun h => (by cases h), fun h => (by cases h), fun h => (by cases h), fun h => (by cases h)⟩
  · refine ⟨?_, ?_, ?_, ?_, ?_, ?_, ?_, trivial⟩
    all_goals
      intro f vs X hlen hf hp hj K hK
      obtain ⟨y0, y1, y2, y3, y4, y5, y6, rfl⟩ := len7e hlen
      clear hlen
      have HJ := Lib.hid hj
      clear hj
    · simp only [putAll, Act.put, List.setIfInBounds_toArray, List.set_cons_zero, List.set_cons_succ] at hK ⊢
      rw [if_pos (by rfl)]
      go_simp
      refine hK _ X ?_
      refine ⟨HJ.out.rv.set (by simp) (fun u hu => by simpa using hu), HJ.out.wr, by simpa using HJ.out.rd, fun h => HJ.out.p3 (by simpa using h), fun h => by simpa using HJ.out.p4 (by simpa using h), fun h => ?_, fun h => by simpa using HJ.out.p6 (by simpa using h)⟩
      obtain ⟨g5, cs, q1, q2, q3, q4, q5⟩ := HJ.out.p5 (by simpa using h)
      exact ⟨g5, cs, q1, q2, q3, q4, fun h => q5 (by simpa using h)⟩
    · simp only [putAll, Act.put, List.setIfInBounds_toArray, List.set_cons_zero, List.set_cons_succ] at hK ⊢
      have q0 : y0 = .pointer (some ⟨g, 0, none⟩) := HJ.out.rv 0 _ (hp 0 (by simp)) rfl
      subst q0
      rw [if_pos (by rfl)]
      have K := KN.out X (by have := HJ.out.rd; rw [hf] at this; exact this)
      go_simp
      refine K.mono ?_
      rintro r w3 ⟨rfl, h1, h2⟩
      refine hK _ w3 ?_
      refine ⟨HJ.out.rv.set (by simp) (fun u hu => by simpa using hu), HJ.out.wr.trans h2, by simpa using h1, fun h => ?_, fun h => by simpa using HJ.out.p4 (by simpa using h), fun h => ?_, fun h => by simpa using HJ.out.p6 (by simpa using h)⟩
      · obtain ⟨g3, q1, q2, q3⟩ := HJ.out.p3 (by simpa using h)
        exact ⟨g3, q1, q2, h2.box q3 (by have := HGL.out; omega)⟩
      · obtain ⟨g5, cs, q1, q2, q3, q4, q5⟩ := HJ.out.p5 (by simpa using h)
        exact ⟨g5, cs, q1, q2, q3, h2.box q4 (by have := HGL.out; omega), fun h => q5 (by simpa using h)⟩
    · simp only [putAll, Act.put, List.setIfInBounds_toArray, List.set_cons_zero, List.set_cons_succ] at hK ⊢
      rw [if_pos (by rfl)]
      go_simp
      refine hK _ X ?_
      refine ⟨HJ.out.rv.set (by simp) (fun u hu => by simpa using hu), HJ.out.wr, by simpa using HJ.out.rd, fun h => HJ.out.p3 (by simpa using h), fun h => by simpa using HJ.out.p4 (by simpa using h), fun h => ?_, fun h => by simpa using HJ.out.p6 (by simpa using h)⟩
      obtain ⟨g5, cs, q1, q2, q3, q4, q5⟩ := HJ.out.p5 (by simpa using h)
      exact ⟨g5, cs, q1, q2, q3, q4, fun h => q5 (by simpa using h)⟩
    · simp only [putAll, Act.put, List.setIfInBounds_toArray, List.set_cons_zero, List.set_cons_succ] at hK ⊢
      have q2 : y2 = .int .i64 (D : Nat) := HJ.out.rv 2 _ (hp 2 (by simp)) rfl
      subst q2
      rw [if_pos (by rfl)]
      have hmk := HMK.out X
      go_simp
      have hal := (Below.refl X.heap.size X).alloc (Nat.le_refl _) (.cells ZD 3)
      have hx := HJ.out.wr.size
      refine hK _ _ ?_
      refine ⟨HJ.out.rv.set (by simp) (fun u hu => by simp at hu), HJ.out.wr.trans (Wr.of g hal), by simpa using HJ.out.rd.below hal, fun _ => ⟨X.heap.size, rfl, hx, Box.new X _ _⟩, fun h => ?_, fun h => ?_, fun h => ?_⟩
      · have := (HJ.out.p4 (by simpa using h)).1; rw [hf] at this; cases this
      · obtain ⟨g5, cs, q1, q2, q3, q4, q5⟩ := HJ.out.p5 (by simpa using h)
        refine ⟨g5, cs, q1, q2, q3, q4.alloc _, fun h => ?_⟩
        have := (HJ.out.p6 (by simpa using h)).2; rw [hf] at this; cases this
      · have := (HJ.out.p6 (by simpa using h)).2; rw [hf] at this; cases this
    · simp only [putAll, Act.put, List.setIfInBounds_toArray, List.set_cons_zero, List.set_cons_succ] at hK ⊢
      have q1 : y1 = .int .i64 (a : Nat) := HJ.out.rv 1 _ (hp 1 (by simp)) rfl
      subst q1
      obtain ⟨g3, e3, hg3, hb3⟩ := HJ.out.p3 (hp 3 (by simp))
      have e3 : y3 = .slice (some ⟨g3, 0, none⟩) D D := e3
      subst e3
      rw [if_pos (by rfl)]
      go_simp
      refine hK _ X ?_
      refine ⟨HJ.out.rv.set (by simp) (fun u hu => by simp at hu), HJ.out.wr, by simpa using HJ.out.rd, fun h => HJ.out.p3 (by simpa using h), fun _ => ⟨by simpa using hp 3 (by simp), rfl⟩, fun h => ?_, fun h => by simpa using HJ.out.p6 (by simpa using h)⟩
      obtain ⟨g5, cs, q1, q2, q3, q4, q5⟩ := HJ.out.p5 (by simpa using h)
      exact ⟨g5, cs, q1, q2, q3, q4, fun h => q5 (by simpa using h)⟩
    · simp only [putAll, Act.put, List.setIfInBounds_toArray, List.set_cons_zero, List.set_cons_succ] at hK ⊢
      rw [if_pos (by rfl)]
      go_simp
      have hal := (Below.refl X.heap.size X).alloc (Nat.le_refl _) (.cells #[.int .i64 0, .slice none 0 0, .int .i64 0, .int .i64 0, .bool false] 41)
      have hx := HJ.out.wr.size
      refine hK _ _ ?_
      refine ⟨HJ.out.rv.set (by simp) (fun u hu => by simp at hu), HJ.out.wr.trans (Wr.of g hal), by simpa using HJ.out.rd.below hal, fun h => ?_, fun h => by simpa using HJ.out.p4 (by simpa using h), fun _ => ⟨X.heap.size, _, rfl, hx, rfl, Box.new X _ _, fun h => ?_⟩, fun h => ?_⟩
      · obtain ⟨g3, q1, q2, q3⟩ := HJ.out.p3 (by simpa using h)
        exact ⟨g3, q1, q2, q3.alloc _⟩
      · have := (HJ.out.p6 (by simpa using h)).1; rw [hf] at this; cases this
      · have := (HJ.out.p6 (by simpa using h)).1; rw [hf] at this; cases this
    · simp only [putAll, Act.put, List.setIfInBounds_toArray, List.set_cons_zero, List.set_cons_succ] at hK ⊢
      obtain ⟨h3, e4⟩ := HJ.out.p4 (hp 4 (by simp))
      have e4 : y4 = .agg #[.int .i64 (a : Nat), y3, .int .i64 0, .int .i64 0, .bool false] := e4
      obtain ⟨g3, e3, hg3, hb3⟩ := HJ.out.p3 h3
      have e3 : y3 = .slice (some ⟨g3, 0, none⟩) D D := e3
      obtain ⟨g5, cs, e5, hg5, hcs, hb5, -⟩ := HJ.out.p5 (hp 5 (by simp))
      have e5 : y5 = .pointer (some ⟨g5, 0, none⟩) := e5
      subst e3 e4 e5
      rw [if_pos (by rfl)]
      have hs := run_storeVar_row (P := Tryz.prog) X g5 41 41 cs #[.int .i64 (a : Nat), .slice (some ⟨g3, 0, none⟩) D D, .int .i64 0, .int .i64 0, .bool false] hb5 (info_seen.trans rfl) (hcs.trans rfl) (by simp [Value.oneCell'])
      simp [go_sem] at hs
      go_simp
      refine hK undef _ ?_
      have hz := setRow_heap X g5 cs #[.int .i64 (a : Nat), .slice (some ⟨g3, 0, none⟩) D D, .int .i64 0, .int .i64 0, .bool false] 41 (0, 0) hb5
      have hne : g5 ≠ g3 := fun e => by subst e; have h1 := hb5.symm.trans hb3; cases h1
      have hgl := HGL.out
      refine ⟨HJ.out.rv.set (by simp) (fun u hu => by simp at hu), HJ.out.wr.setRowI hg5 _, ?_, fun _ => ⟨g3, rfl, hg3, (setRow_other X g5 g3 _ hne.symm).trans hb3⟩, fun _ => ⟨by simpa using h3, rfl⟩, fun _ => ⟨g5, _, rfl, hg5, rfl, hz, fun _ => rfl⟩, fun _ => ⟨by simpa using hp 5 (by simp), by simpa using h3⟩⟩
      have hrd : RdAt X B g b (cond (f 1) k1 k) (cond (f 1) e1 e) := HJ.out.rd
      show RdAt _ B g b (cond (f 1) k1 k) (cond (f 1) e1 e)
      exact hrd.wr (g' := g5) ⟨rfl, rfl, rfl, by simp [World.setRow], fun j _ hj => setRow_other X g5 j _ hj⟩ (.inr (by omega))
  · intro vs X hlen hj
    obtain ⟨y0, y1, y2, y3, y4, y5, y6, rfl⟩ := len7e hlen
    obtain ⟨g3, e3, hg3, hb3⟩ := hj.p3 rfl
    obtain ⟨g5, cs, e5, hg5, -, hb5, hcs⟩ := hj.p5 rfl
    have e3 : y3 = .slice (some ⟨g3, 0, none⟩) D D := e3
    have e5 : y5 = .pointer (some ⟨g5, 0, none⟩) := e5
    obtain rfl := hcs rfl
    subst e3 e5
    have hne : g5 ≠ g3 := fun e => by subst e; have h1 := hb5.symm.trans hb3; cases h1
    have hrd : RdAt X B g b k1 e1 := hj.rd
    have hwr := hj.wr
    have HR1 := Lib.hid hrd
    have HW1 := Lib.hid hwr
    have HB3 := Lib.hid hb3
    have HB5 : Hid (Box X g5 #[.int .i64 (a : Nat), .slice (some ⟨g3, 0, none⟩) D D, .int .i64 0, .int .i64 0, .bool false] 41) := hb5
    clear hj hlen hrd hwr hb3 hb5
    simp only [putAll, Act.put, List.setIfInBounds_toArray, List.set_cons_zero, List.set_cons_succ]
    have HXn := Lib.hid (HW1.out.box HX0.out HGN.out.symm)
    have HW := Lib.hid (HW0.out.trans HW1.out)
    have hn2 : w.heap.size + 2 ≤ g3 ∧ w.heap.size + 2 ≤ g5 := by have := HS2.out; exact ⟨by omega, by omega⟩
    have HNE : Hid (g3 ≠ g ∧ g5 ≠ g ∧ w.heap.size ≠ g ∧ g3 ≠ g5 ∧ w.heap.size + 2 ≤ g3 ∧ w.heap.size + 2 ≤ g5 ∧ g < w.heap.size) := by have := HGN.out; have := hn2; (show _ ∧ _); omega
    have HE0 : Hid (rdE b 0 (k1, e1) = ((k1, e1), [])) := rfl
    have HES : Hid (∀ i, rdE b (i + 1) (k1, e1) = ((rU b (rdE b i (k1, e1)).1.1 (rdE b i (k1, e1)).1.2).1, (rdE b i (k1, e1)).2 ++ [unfoldI (rU b (rdE b i (k1, e1)).1.1 (rdE b i (k1, e1)).1.2).2])) := fun i => rfl
    have HEL := Lib.hid (rdE_len b (k1, e1))
    have KI0 := Lib.hid (fun W k e (h : RdAt W B g b k e) => rd_I h)
    have KN1 := Lib.hid (fun W k e (h : RdAt W B g b k e) => rd_N 1 i1 h)
    have HB3 : Hid (Box X g3 (litI ([] ++ List.replicate D 0)).toArray 3) := by have := HB3.out; rw [HZD.out] at this; exact this
    clear HX0 HW0 HW1 HGN HGL HS2 HMK HZD KN KN0 HR hg3 hg5 hne
    obtain ⟨s0, s1, s2, s3, s4⟩ := HB5.out.five
    go_wp2
    clear s0 s1 s2 s3 s4
    go_loopw [22] (fun iv wr => ∃ i : Nat, i ≤ D ∧ iv = .int .i64 (i : Nat) ∧ Hid (RdAt wr B g b (rdE b i (k1, e1)).1.1 (rdE b i (k1, e1)).1.2) ∧ Hid (Box wr g3 (litI ((rdE b i (k1, e1)).2 ++ List.replicate (D - i) 0)).toArray 3) ∧ Hid (Box wr g5 #[.int .i64 (a : Nat), .slice (some ⟨g3, 0, none⟩) D D, .int .i64 0, .int .i64 0, .bool false] 41) ∧ Hid (Box wr w.heap.size #[.int .i64 0, .slice none 0 0, .int .i64 0, .int .i64 0, .bool false] 41) ∧ Hid (Wr g w wr)) (fun iv _ => D - (intOf iv).toNat)
    case atStart => exact ⟨0, Nat.zero_le _, rfl, HR1.out, HB3.out, HB5.out, HXn.out, HW.out⟩
    case round =>
      clear HR1 HB3 HB5 HXn HW
      obtain ⟨i, hi, rfl, HR, HB3, HB5, HXn, HW⟩ := hrel
      by_cases hlt : i < D
      · have hig : (i : Int) < (D : Int) := by omega
        have HS := HES.out i
        have hlen := HEL.out i
        clear HGE KN1 HES
        generalize rdE b i (k1, e1) = ri at *
        obtain ⟨⟨k2, e2⟩, l⟩ := ri
        simp only at HS hlen HR HB3
        have KI := Lib.hid (fun W h => KI0.out W k2 e2 h)
        generalize rU b k2 e2 = u at *
        obtain ⟨⟨k4, e4⟩, m⟩ := u
        simp only at HS KI
        generalize unfoldI m = x at *
        have HS := Lib.hid HS
        have HZS : Hid ((litI (l ++ List.replicate (D - i) 0)).toArray.setIfInBounds i (.int .i64 x) = (litI ((l ++ [x]) ++ List.replicate (D - (i + 1)) 0)).toArray) := by
          show _ = _
          rw [List.setIfInBounds_toArray]
          unfold litI
          rw [← List.map_set, noughts_set l D x D i hlen hlt]
        have HZI : Hid ((litI (l ++ List.replicate (D - i) 0)).toArray[i]? = some (.int .i64 0)) := by
          show _ = _
          simp only [litI, List.getElem?_toArray, List.getElem?_map]
          rw [List.getElem?_append_right (by omega), hlen, Nat.sub_self, List.getElem?_replicate, if_pos (by omega)]
          rfl
        clear hlen KI0 HEL HE0
        generalize hZ : (litI (l ++ List.replicate (D - i) 0)).toArray = Z at *
        clear hZ
        go_wp2
        refine wp_region_steps (Gs8J g B b k2 e2 k4 e4 w D i g3 g5 w.heap.size x #[.int .i64 (a : Nat), .slice (some ⟨g3, 0, none⟩) D D, .int .i64 0, .int .i64 0, .bool false] #[.int .i64 0, .slice none 0 0, .int .i64 0, .int .i64 0, .bool false] Z) [[], [0], [], [], [3], [1, 2, 0, 1, 2, 3, 4], [5, 4, 4, 0, 1, 2, 3, 4]] (by kernel_rfl) (by kernel_rfl) (by kernel_rfl) (by kernel_rfl) ?_ ?_ ?_ ?_
        · intro f f' vs X hfg h
          have e4 := hfg 4 (by decide); have e6 := hfg 6 (by decide)
          exact ⟨fun j u hj he => h.rv j u ((hfg j (by have := (List.getElem?_eq_some_iff.1 he).1; simpa using this)).trans hj) he, h.wr, by rw [← e4]; exact h.rd, h.b5, h.bn, by rw [← e6]; exact h.b3⟩
        · intro vs _
          exact ⟨fun j u h => (by cases h), HW.out.trans (Wr.of g ((Below.refl _ _).drew)), HR.out.below ((Below.refl _ _).drew), HB5.out, HXn.out, HB3.out⟩
        · refine ⟨?_, ?_, ?_, ?_, ?_, ?_, ?_, trivial⟩
          all_goals
            intro f vs X hlen hf hp hj K hK
            obtain ⟨y0, y1, y2, y3, y4, y5, y6, rfl⟩ := len7e hlen
            clear hlen
            have HJ := Lib.hid hj
            clear hj
          · simp only [putAll, Act.put, List.setIfInBounds_toArray, List.set_cons_zero, List.set_cons_succ] at hK ⊢
            rw [if_pos (by rfl)]
            go_simp
            refine hK _ X ?_
            exact ⟨HJ.out.rv.set (by simp) (fun u hu => by simpa using hu), HJ.out.wr, HJ.out.rd, HJ.out.b5, HJ.out.bn, HJ.out.b3⟩
          · simp only [putAll, Act.put, List.setIfInBounds_toArray, List.set_cons_zero, List.set_cons_succ] at hK ⊢
            have q0 : y0 = .pointer (some ⟨g5, 1, none⟩) := HJ.out.rv 0 _ (hp 0 (by simp)) rfl
            subst q0
            obtain ⟨s0, s1, s2, s3, s4⟩ := HJ.out.b5.five
            rw [if_pos (by rfl)]
            go_simp
            refine hK _ X ?_
            exact ⟨HJ.out.rv.set (by simp) (fun u hu => by simpa using hu), HJ.out.wr, HJ.out.rd, HJ.out.b5, HJ.out.bn, HJ.out.b3⟩
          · simp only [putAll, Act.put, List.setIfInBounds_toArray, List.set_cons_zero, List.set_cons_succ] at hK ⊢
            rw [if_pos (by rfl)]
            go_simp
            refine hK _ X ?_
            exact ⟨HJ.out.rv.set (by simp) (fun u hu => by simpa using hu), HJ.out.wr, HJ.out.rd, HJ.out.b5, HJ.out.bn, HJ.out.b3⟩
          · simp only [putAll, Act.put, List.setIfInBounds_toArray, List.set_cons_zero, List.set_cons_succ] at hK ⊢
            rw [if_pos (by rfl)]
            go_simp
            refine hK _ X ?_
            exact ⟨HJ.out.rv.set (by simp) (fun u hu => by simpa using hu), HJ.out.wr, HJ.out.rd, HJ.out.b5, HJ.out.bn, HJ.out.b3⟩
          · simp only [putAll, Act.put, List.setIfInBounds_toArray, List.set_cons_zero, List.set_cons_succ] at hK ⊢
            have q3 : y3 = .pointer (some ⟨g, 0, none⟩) := HJ.out.rv 3 _ (hp 3 (by simp)) rfl
            subst q3
            rw [if_pos (by rfl)]
            have K := KI.out X (by have := HJ.out.rd; rw [hf] at this; exact this)
            go_simp
            refine K.mono ?_
            rintro r w3 ⟨rfl, h1, h2⟩
            refine hK _ w3 ?_
            have hn := HNE.out
            exact ⟨HJ.out.rv.set (by simp) (fun u hu => by simpa using hu), HJ.out.wr.trans h2, h1, h2.box HJ.out.b5 hn.2.1, h2.box HJ.out.bn hn.2.2.1, h2.box HJ.out.b3 hn.1⟩
          · simp only [putAll, Act.put, List.setIfInBounds_toArray, List.set_cons_zero, List.set_cons_succ] at hK ⊢
            have q1 : y1 = .slice (some ⟨g3, 0, none⟩) D D := HJ.out.rv 1 _ (hp 1 (by simp)) rfl
            subst q1
            have q2 : y2 = .int .i64 (i : Nat) := HJ.out.rv 2 _ (hp 2 (by simp)) rfl
            subst q2
            rw [if_pos (by rfl)]
            go_simp
            refine hK _ X ?_
            exact ⟨HJ.out.rv.set (by simp) (fun u hu => by simpa using hu), HJ.out.wr, HJ.out.rd, HJ.out.b5, HJ.out.bn, HJ.out.b3⟩
          · simp only [putAll, Act.put, List.setIfInBounds_toArray, List.set_cons_zero, List.set_cons_succ] at hK ⊢
            have q5 : y5 = .pointer (some ⟨g3, i, none⟩) := HJ.out.rv 5 _ (hp 5 (by simp)) rfl
            subst q5
            have q4 : y4 = .int .i64 x := HJ.out.rv 4 _ (hp 4 (by simp)) rfl
            subst q4
            rw [if_pos (by rfl)]
            have hb3 : Box X g3 Z 3 := by have := HJ.out.b3; rw [hf] at this; exact this
            have c0 := (hb3.cell i).trans HZI.out
            have f0 := hb3.free i
            have hn := HNE.out
            go_simp
            refine hK undef _ ?_
            exact ⟨HJ.out.rv.set (by simp) (fun u hu => by simp at hu), HJ.out.wr.setNewI (p := ⟨g3, i, none⟩) (by show w.heap.size ≤ g3; omega) _, HJ.out.rd.wr (Wr.set g3 i _ _) (.inr (by have := HJ.out.wr; omega)), HJ.out.b5.off (p := ⟨g3, i, none⟩) (by show g3 ≠ g5; omega) _, HJ.out.bn.off (p := ⟨g3, i, none⟩) (by show g3 ≠ w.heap.size; omega) _, hb3.set i _⟩
        · intro vs X hlen hj
          obtain ⟨y0, y1, y2, y3, y4, y5, y6, rfl⟩ := len7e hlen
          have HRb := Lib.hid hj.rd
          have HWb := Lib.hid hj.wr
          have HB5b := Lib.hid hj.b5
          have HXb := Lib.hid hj.bn
          have HB3b := Lib.hid hj.b3
          clear hj hlen
          simp only [putAll, Act.put, List.setIfInBounds_toArray, List.set_cons_zero, List.set_cons_succ]
          go_wp2
          refine ⟨⟨i + 1, by omega, by go_num, ?_, ?_, HB5b.out, HXb.out, HWb.out⟩, by simp [intOf]; omega⟩
          · rw [HS.out]; exact HRb.out
          · rw [HS.out, ← HZS.out]; exact HB3b.out
      · obtain rfl : i = D := by omega
        clear HES HE0 KI0
        have hlen := HEL.out i
        generalize rdE b i (k1, e1) = ri at *
        obtain ⟨⟨k2, e2⟩, XX⟩ := ri
        simp only at HGE hlen HR HB3
        have hb3 := HB3.out
        rw [Nat.sub_self, List.replicate_zero, List.append_nil] at hb3
        clear HB3
        have HB3 := Lib.hid hb3
        clear hb3
        have K := Lib.hid (KN1.out wr k2 e2 HR.out)
        have hm1 : (rN b k2 e2 1).2 ≤ 1 := by
          by_cases hz : (rN b k2 e2 1).1.2 = 0
          · have := (rN_bd hz).1; omega
          · rw [(rN_err hz).2]; omega
        obtain ⟨f, hf⟩ : ∃ f, f = rN b k2 e2 1 := ⟨_, rfl⟩
        rw [← hf] at HGE K hm1
        clear hf
        obtain ⟨⟨k3, e3⟩, m⟩ := f
        simp only at HGE K hm1
        by_cases hm : m = 1
        · subst hm
          rw [show ((1 : Nat) : Int) = 1 from rfl] at K
          have HGM : Hid (gM b ((k3, e3), 1) = gS b k3 e3) := rfl
          clear hm1
          go_wp2_with fail
          refine (K.out).mono ?_
          rintro r w5 ⟨rfl, h1, h2⟩
          have hnn := HNE.out
          have hb5 := h2.box HB5.out hnn.2.1
          have hbx := h2.box HXn.out hnn.2.2.1
          have hb3 := h2.box HB3.out hnn.1
          have hww := HW.out.trans h2
          obtain ⟨s0, s1, s2, s3, s4⟩ := hb5.five
          obtain ⟨f0, f1, f2, f3, f4⟩ := hb5.frees
          clear HB5 HXn HB3 HW HR K
          have HB5 := Lib.hid (hb5.set 4 (.bool true))
          have HXn := Lib.hid (hbx.off (p := ⟨g5, 4, none⟩) (by show g5 ≠ w.heap.size; omega) (.bool true))
          have HB3 := Lib.hid (hb3.off (p := ⟨g5, 4, none⟩) (by show g5 ≠ g3; omega) (.bool true))
          have HW := Lib.hid (hww.setNewI (p := ⟨g5, 4, none⟩) (by show w.heap.size ≤ g5; omega) (.bool true))
          have HR := Lib.hid (h1.wr (Wr.set g5 4 w5 (.bool true)) (.inr (by omega)))
          clear h1 h2 hb5 hbx hb3 hww
          go_upto_region 11 with fail
          generalize w5.setCell ⟨g5, 4, none⟩ (.bool true) = w6 at *
          clear s0 s1 s2 s3 s4 f0 f1 f2 f3 f4
          have HPI := Lib.hid (gS_i64 b k3 e3).1
          have HQI := Lib.hid (gS_i64 b k3 e3).2
          have K := Lib.hid (it_GetScore b B g k3 e3 w6 HR.out)
          obtain ⟨gs, hgs⟩ : ∃ gs, gs = gS b k3 e3 := ⟨_, rfl⟩
          rw [← hgs] at HGM K HPI HQI
          clear hgs
          obtain ⟨⟨k4, e4⟩, p, q⟩ := gs
          simp only at K HPI HQI
          obtain ⟨s0, s1, s2, s3, s4⟩ := HB5.out.five
          go_wp2_with fail
          refine (K.out).mono ?_
          rintro r w7 ⟨rfl, h1, h2⟩
          have hb5 := h2.box HB5.out hnn.2.1
          have hbx := h2.box HXn.out hnn.2.2.1
          have hb3 := h2.box HB3.out hnn.1
          have hww := HW.out.trans h2
          clear s0 s1 s2 s3 s4
          obtain ⟨s0, s1, s2, s3, s4⟩ := hb5.five
          obtain ⟨f0, f1, f2, f3, f4⟩ := hb5.frees
          clear HB5 HXn HB3 HW HR K
          have HB5 := Lib.hid ((hb5.set 2 (.int .i64 p)).set 3 (.int .i64 q))
          have HXn := Lib.hid ((hbx.off (p := ⟨g5, 2, none⟩) (by show g5 ≠ w.heap.size; omega) (.int .i64 p)).off (p := ⟨g5, 3, none⟩) (by show g5 ≠ w.heap.size; omega) (.int .i64 q))
          have HB3 := Lib.hid ((hb3.off (p := ⟨g5, 2, none⟩) (by show g5 ≠ g3; omega) (.int .i64 p)).off (p := ⟨g5, 3, none⟩) (by show g5 ≠ g3; omega) (.int .i64 q))
          have HW := Lib.hid ((hww.setNewI (p := ⟨g5, 2, none⟩) (by show w.heap.size ≤ g5; omega) (.int .i64 p)).setNewI (p := ⟨g5, 3, none⟩) (by show w.heap.size ≤ g5; omega) (.int .i64 q))
          have HR := Lib.hid ((h1.wr (Wr.set g5 2 w7 (.int .i64 p)) (.inr (by omega))).wr (Wr.set g5 3 (w7.setCell ⟨g5, 2, none⟩ (.int .i64 p)) (.int .i64 q)) (.inr (by omega)))
          clear h1 h2 hb5 hbx hb3 hww
          go_upto_region 13 with fail
          generalize (w7.setCell ⟨g5, 2, none⟩ (.int .i64 p)).setCell ⟨g5, 3, none⟩ (.int .i64 q) = w8 at *
          clear s0 s1 s2 s3 s4 f0 f1 f2 f3 f4
          have HLX : Hid (Lies w8 w8.heap.size (some ⟨g3, 0, none⟩) XX) := boxLies HB3.out rfl
          obtain ⟨R, hR⟩ : ∃ R, R = rsB (a : Nat) XX p q true (i : Nat) := ⟨_, rfl⟩
          have KC : Hid (∀ W gd, Below w8.heap.size w8 W → Box W gd #[.int .i64 (i : Nat)] 3 → Calls Tryz.prog 46 #[.pointer (some ⟨g, 0, none⟩), .agg #[.int .i64 (a : Nat), .slice (some ⟨g3, 0, none⟩) i i, .int .i64 p, .int .i64 q, .bool true], .func (.func 70) #[] #[.pointer (some ⟨gd, 0, none⟩)]] W fun r w' => r = .returned (if chkF R e4 = 0 then .agg #[.int .i64 (a : Nat), .slice (some ⟨g3, 0, none⟩) i i, .int .i64 p, .int .i64 q, .bool true] else .agg #[.int .i64 0, .slice none 0 0, .int .i64 0, .int .i64 0, .bool false]) ∧ RdAt w' B g b k4 (chkF R e4) ∧ Wr g W w') := fun W gd hb hd => it_checkedE (a : Nat) p q true gd (some ⟨g3, 0, none⟩) i i R b B g k4 e4 W (HR.out.below hb) (fun W' h' => by
            have h9 := it_rightSeen1 (a : Nat) XX (some ⟨g3, 0, none⟩) i p q true (i : Nat) gd HPI.out HQI.out W' ((HLX.out.below (hb.trans (h'.mono hb.size))).mono (hb.trans (h'.mono hb.size)).size) (by omega) (by omega) (hd.below h' hd.lt)
            rw [hlen, ← hR] at h9
            exact h9)
          have KS : Hid (∀ W : World, Calls Tryz.prog 38 #[.int .i64 (i : Nat)] W fun e w' => e = .returned (.func (.func 70) #[] #[.pointer (some ⟨W.heap.size, 0, none⟩)]) ∧ Box w' W.heap.size #[.int .i64 (i : Nat)] 3 ∧ Below W.heap.size W w') := fun W => (it_rightSeen (i : Nat) W).mono fun e w' h => ⟨h.1, by rw [h.2]; exact Box.new W _ _, by rw [h.2]; exact (Below.refl _ _).alloc (Nat.le_refl _) _⟩
          have HGE2 : Hid (out = ((k4, chkF R e4), if chkF R e4 = 0 then (((a : Nat) : Int), XX, p, q, true) else (0, [], 0, 0, false))) := by show _ = _; rw [HGE.out, HGM.out, hR]; rfl
          have HLEN := Lib.hid hlen
          clear HGE HGM hR HLX KN1 HEL hlen
          obtain ⟨E, hE9⟩ : ∃ E, E = chkF R e4 := ⟨_, rfl⟩
          rw [← hE9] at HGE2 KC
          clear hE9
          obtain ⟨s0, s1, s2, s3, s4⟩ := (show Box w8.drew g5 _ _ from HB5.out).five
          have HD := Lib.hid ((Below.refl w8.heap.size w8).drew)
          have HG8 := Lib.hid HR.out.lt.1
          by_cases hE : E = 0
          · subst hE
            have HGE3 : Hid (out = ((k4, 0), ((a : Nat) : Int), XX, p, q, true)) := HGE2.out.trans (by rw [if_pos rfl])
            rw [if_pos rfl] at KC
            clear HGE2
            go_region_with (first | (go_at_call 38; refine Calls.mono (KS.out _) ?_; rintro r w9 ⟨rfl, hbd, h2⟩; have HD9 := Lib.hid (HD.out.trans h2); have K := Lib.hid (KC.out w9 _ HD9.out hbd); have HB59 := Lib.hid (HB5.out.below HD9.out HB5.out.lt); obtain ⟨v0, v1, v2, v3, v4⟩ := HB59.out.five; clear h2 hbd) | (go_at_call 46; refine Calls.mono K.out ?_; rintro r wa ⟨rfl, h1, h2⟩; have HRa := Lib.hid h1; have HXa := Lib.hid (h2.box (HXn.out.below HD9.out HXn.out.lt) HNE.out.2.2.1); have HB3a := Lib.hid (h2.box (HB3.out.below HD9.out HB3.out.lt) HNE.out.1); have HWa := Lib.hid ((HW.out.trans (Wr.of g HD9.out)).trans h2); clear h1 h2; obtain ⟨t0, t1, t2, t3, t4⟩ := HXa.out.five; obtain ⟨f0, f1, f2, f3, f4⟩ := HXa.out.frees))
            all_goals
              have hne := HNE.out
              go_wp2
              have z0 := (HXa.out.set 0 (.int .i64 (a : Nat))).cell 0
              have z1 := ((HXa.out.set 0 (.int .i64 (a : Nat))).set 1 (.slice (some ⟨g3, 0, none⟩) i i)).cell 1
              have z2 := (((HXa.out.set 0 (.int .i64 (a : Nat))).set 1 (.slice (some ⟨g3, 0, none⟩) i i)).set 2 (.int .i64 p)).cell 2
              have z3 := ((((HXa.out.set 0 (.int .i64 (a : Nat))).set 1 (.slice (some ⟨g3, 0, none⟩) i i)).set 2 (.int .i64 p)).set 3 (.int .i64 q)).cell 3
              have z4 := (((((HXa.out.set 0 (.int .i64 (a : Nat))).set 1 (.slice (some ⟨g3, 0, none⟩) i i)).set 2 (.int .i64 p)).set 3 (.int .i64 q)).set 4 (.bool true)).cell 4
              refine bodyPost_ret (v := .agg #[.int .i64 (a : Nat), .slice (some ⟨g3, 0, none⟩) i i, .int .i64 p, .int .i64 q, .bool true]) (by simp [results, Tryz.results17, go_sem, z0, z1, z2, z3, z4]) rfl ?_
              rw [HGE3.out]
              refine ⟨some ⟨g3, 0, none⟩, i, by show _ = _; rw [HLEN.out], ?_, (((((HRa.out.wr (Wr.set w.heap.size 0 _ _) (.inr (by omega))).wr (Wr.set w.heap.size 1 _ _) (.inr (by omega))).wr (Wr.set w.heap.size 2 _ _) (.inr (by omega))).wr (Wr.set w.heap.size 3 _ _) (.inr (by omega))).wr (Wr.set w.heap.size 4 _ _) (.inr (by omega))), (((((HWa.out.setNewI (p := ⟨w.heap.size, 0, none⟩) (Nat.le_refl _) _).setNewI (p := ⟨w.heap.size, 1, none⟩) (Nat.le_refl _) _).setNewI (p := ⟨w.heap.size, 2, none⟩) (Nat.le_refl _) _).setNewI (p := ⟨w.heap.size, 3, none⟩) (Nat.le_refl _) _).setNewI (p := ⟨w.heap.size, 4, none⟩) (Nat.le_refl _) _)⟩
              have hb3 := ((Wr.set w.heap.size 4 _ (.bool true)).box ((Wr.set w.heap.size 3 _ (.int .i64 q)).box ((Wr.set w.heap.size 2 _ (.int .i64 p)).box ((Wr.set w.heap.size 1 _ (.slice (some ⟨g3, 0, none⟩) i i)).box ((Wr.set w.heap.size 0 _ (.int .i64 (a : Nat))).box HB3a.out (by omega)) (by omega)) (by omega)) (by omega)) (by omega))
              exact boxLies hb3 rfl
          · have HGE3 : Hid (out = ((k4, E), (0 : Int), ([] : List Int), (0 : Int), (0 : Int), false)) := HGE2.out.trans (by rw [if_neg hE])
            rw [if_neg hE] at KC
            clear hE
            clear HGE2
            go_region_with (first | (go_at_call 38; refine Calls.mono (KS.out _) ?_; rintro r w9 ⟨rfl, hbd, h2⟩; have HD9 := Lib.hid (HD.out.trans h2); have K := Lib.hid (KC.out w9 _ HD9.out hbd); have HB59 := Lib.hid (HB5.out.below HD9.out HB5.out.lt); obtain ⟨v0, v1, v2, v3, v4⟩ := HB59.out.five; clear h2 hbd) | (go_at_call 46; refine Calls.mono K.out ?_; rintro r wa ⟨rfl, h1, h2⟩; have HRa := Lib.hid h1; have HXa := Lib.hid (h2.box (HXn.out.below HD9.out HXn.out.lt) HNE.out.2.2.1); have HB3a := Lib.hid (h2.box (HB3.out.below HD9.out HB3.out.lt) HNE.out.1); have HWa := Lib.hid ((HW.out.trans (Wr.of g HD9.out)).trans h2); clear h1 h2; obtain ⟨t0, t1, t2, t3, t4⟩ := HXa.out.five; obtain ⟨f0, f1, f2, f3, f4⟩ := HXa.out.frees))
            all_goals
              have hne := HNE.out
              go_wp2
              have z0 := (HXa.out.set 0 (.int .i64 0)).cell 0
              have z1 := ((HXa.out.set 0 (.int .i64 0)).set 1 (.slice none 0 0)).cell 1
              have z2 := (((HXa.out.set 0 (.int .i64 0)).set 1 (.slice none 0 0)).set 2 (.int .i64 0)).cell 2
              have z3 := ((((HXa.out.set 0 (.int .i64 0)).set 1 (.slice none 0 0)).set 2 (.int .i64 0)).set 3 (.int .i64 0)).cell 3
              have z4 := (((((HXa.out.set 0 (.int .i64 0)).set 1 (.slice none 0 0)).set 2 (.int .i64 0)).set 3 (.int .i64 0)).set 4 (.bool false)).cell 4
              refine bodyPost_ret (v := .agg #[.int .i64 0, .slice none 0 0, .int .i64 0, .int .i64 0, .bool false]) (by simp [results, Tryz.results17, go_sem, z0, z1, z2, z3, z4]) rfl ?_
              rw [HGE3.out]
              exact ⟨none, 0, rfl, lies0, (((((HRa.out.wr (Wr.set w.heap.size 0 _ _) (.inr (by omega))).wr (Wr.set w.heap.size 1 _ _) (.inr (by omega))).wr (Wr.set w.heap.size 2 _ _) (.inr (by omega))).wr (Wr.set w.heap.size 3 _ _) (.inr (by omega))).wr (Wr.set w.heap.size 4 _ _) (.inr (by omega))), (((((HWa.out.setNewI (p := ⟨w.heap.size, 0, none⟩) (Nat.le_refl _) _).setNewI (p := ⟨w.heap.size, 1, none⟩) (Nat.le_refl _) _).setNewI (p := ⟨w.heap.size, 2, none⟩) (Nat.le_refl _) _).setNewI (p := ⟨w.heap.size, 3, none⟩) (Nat.le_refl _) _).setNewI (p := ⟨w.heap.size, 4, none⟩) (Nat.le_refl _) _)⟩
        · obtain rfl : m = 0 := by omega
          rw [show ((0 : Nat) : Int) = 0 from rfl] at K
          have HGM : Hid (gM b ((k3, e3), 0) = ((k3, e3), (0, 0))) := rfl
          clear hm1 hm
          go_wp2_with fail
          refine (K.out).mono ?_
          rintro r w5 ⟨rfl, h1, h2⟩
          have hnn := HNE.out
          have hb5 := h2.box HB5.out hnn.2.1
          have hbx := h2.box HXn.out hnn.2.2.1
          have hb3 := h2.box HB3.out hnn.1
          have hww := HW.out.trans h2
          obtain ⟨s0, s1, s2, s3, s4⟩ := hb5.five
          obtain ⟨f0, f1, f2, f3, f4⟩ := hb5.frees
          clear HB5 HXn HB3 HW HR K
          have HB5 := Lib.hid (hb5.set 4 (.bool false))
          have HXn := Lib.hid (hbx.off (p := ⟨g5, 4, none⟩) (by show g5 ≠ w.heap.size; omega) (.bool false))
          have HB3 := Lib.hid (hb3.off (p := ⟨g5, 4, none⟩) (by show g5 ≠ g3; omega) (.bool false))
          have HW := Lib.hid (hww.setNewI (p := ⟨g5, 4, none⟩) (by show w.heap.size ≤ g5; omega) (.bool false))
          have HR := Lib.hid (h1.wr (Wr.set g5 4 w5 (.bool false)) (.inr (by omega)))
          clear h1 h2 hb5 hbx hb3 hww
          go_upto_region 13 with fail
          generalize w5.setCell ⟨g5, 4, none⟩ (.bool false) = w8 at *
          clear s0 s1 s2 s3 s4 f0 f1 f2 f3 f4
          have HPI : Hid (I64 0) := by show I64 0; unfold I64; omega
          have HQI : Hid (I64 0) := by show I64 0; unfold I64; omega
          have HLX : Hid (Lies w8 w8.heap.size (some ⟨g3, 0, none⟩) XX) := boxLies HB3.out rfl
          obtain ⟨R, hR⟩ : ∃ R, R = rsB (a : Nat) XX 0 0 false (i : Nat) := ⟨_, rfl⟩
          have KC : Hid (∀ W gd, Below w8.heap.size w8 W → Box W gd #[.int .i64 (i : Nat)] 3 → Calls Tryz.prog 46 #[.pointer (some ⟨g, 0, none⟩), .agg #[.int .i64 (a : Nat), .slice (some ⟨g3, 0, none⟩) i i, .int .i64 0, .int .i64 0, .bool false], .func (.func 70) #[] #[.pointer (some ⟨gd, 0, none⟩)]] W fun r w' => r = .returned (if chkF R e3 = 0 then .agg #[.int .i64 (a : Nat), .slice (some ⟨g3, 0, none⟩) i i, .int .i64 0, .int .i64 0, .bool false] else .agg #[.int .i64 0, .slice none 0 0, .int .i64 0, .int .i64 0, .bool false]) ∧ RdAt w' B g b k3 (chkF R e3) ∧ Wr g W w') := fun W gd hb hd => it_checkedE (a : Nat) 0 0 false gd (some ⟨g3, 0, none⟩) i i R b B g k3 e3 W (HR.out.below hb) (fun W' h' => by
            have h9 := it_rightSeen1 (a : Nat) XX (some ⟨g3, 0, none⟩) i 0 0 false (i : Nat) gd HPI.out HQI.out W' ((HLX.out.below (hb.trans (h'.mono hb.size))).mono (hb.trans (h'.mono hb.size)).size) (by omega) (by omega) (hd.below h' hd.lt)
            rw [hlen, ← hR] at h9
            exact h9)
          have KS : Hid (∀ W : World, Calls Tryz.prog 38 #[.int .i64 (i : Nat)] W fun e w' => e = .returned (.func (.func 70) #[] #[.pointer (some ⟨W.heap.size, 0, none⟩)]) ∧ Box w' W.heap.size #[.int .i64 (i : Nat)] 3 ∧ Below W.heap.size W w') := fun W => (it_rightSeen (i : Nat) W).mono fun e w' h => ⟨h.1, by rw [h.2]; exact Box.new W _ _, by rw [h.2]; exact (Below.refl _ _).alloc (Nat.le_refl _) _⟩
          have HGE2 : Hid (out = ((k3, chkF R e3), if chkF R e3 = 0 then (((a : Nat) : Int), XX, 0, 0, false) else (0, [], 0, 0, false))) := by show _ = _; rw [HGE.out, HGM.out, hR]; rfl
          have HLEN := Lib.hid hlen
          clear HGE HGM hR HLX KN1 HEL hlen
          obtain ⟨E, hE9⟩ : ∃ E, E = chkF R e3 := ⟨_, rfl⟩
          rw [← hE9] at HGE2 KC
          clear hE9
          obtain ⟨s0, s1, s2, s3, s4⟩ := (show Box w8.drew g5 _ _ from HB5.out).five
          have HD := Lib.hid ((Below.refl w8.heap.size w8).drew)
          have HG8 := Lib.hid HR.out.lt.1
          by_cases hE : E = 0
          · subst hE
            have HGE3 : Hid (out = ((k3, 0), ((a : Nat) : Int), XX, 0, 0, false)) := HGE2.out.trans (by rw [if_pos rfl])
            rw [if_pos rfl] at KC
            clear HGE2
            go_region_with (first | (go_at_call 38; refine Calls.mono (KS.out _) ?_; rintro r w9 ⟨rfl, hbd, h2⟩; have HD9 := Lib.hid (HD.out.trans h2); have K := Lib.hid (KC.out w9 _ HD9.out hbd); have HB59 := Lib.hid (HB5.out.below HD9.out HB5.out.lt); obtain ⟨v0, v1, v2, v3, v4⟩ := HB59.out.five; clear h2 hbd) | (go_at_call 46; refine Calls.mono K.out ?_; rintro r wa ⟨rfl, h1, h2⟩; have HRa := Lib.hid h1; have HXa := Lib.hid (h2.box (HXn.out.below HD9.out HXn.out.lt) HNE.out.2.2.1); have HB3a := Lib.hid (h2.box (HB3.out.below HD9.out HB3.out.lt) HNE.out.1); have HWa := Lib.hid ((HW.out.trans (Wr.of g HD9.out)).trans h2); clear h1 h2; obtain ⟨t0, t1, t2, t3, t4⟩ := HXa.out.five; obtain ⟨f0, f1, f2, f3, f4⟩ := HXa.out.frees))
            all_goals
              have hne := HNE.out
              go_wp2
              have z0 := (HXa.out.set 0 (.int .i64 (a : Nat))).cell 0
              have z1 := ((HXa.out.set 0 (.int .i64 (a : Nat))).set 1 (.slice (some ⟨g3, 0, none⟩) i i)).cell 1
              have z2 := (((HXa.out.set 0 (.int .i64 (a : Nat))).set 1 (.slice (some ⟨g3, 0, none⟩) i i)).set 2 (.int .i64 0)).cell 2
              have z3 := ((((HXa.out.set 0 (.int .i64 (a : Nat))).set 1 (.slice (some ⟨g3, 0, none⟩) i i)).set 2 (.int .i64 0)).set 3 (.int .i64 0)).cell 3
              have z4 := (((((HXa.out.set 0 (.int .i64 (a : Nat))).set 1 (.slice (some ⟨g3, 0, none⟩) i i)).set 2 (.int .i64 0)).set 3 (.int .i64 0)).set 4 (.bool false)).cell 4
              refine bodyPost_ret (v := .agg #[.int .i64 (a : Nat), .slice (some ⟨g3, 0, none⟩) i i, .int .i64 0, .int .i64 0, .bool false]) (by simp [results, Tryz.results17, go_sem, z0, z1, z2, z3, z4]) rfl ?_
              rw [HGE3.out]
              refine ⟨some ⟨g3, 0, none⟩, i, by show _ = _; rw [HLEN.out], ?_, (((((HRa.out.wr (Wr.set w.heap.size 0 _ _) (.inr (by omega))).wr (Wr.set w.heap.size 1 _ _) (.inr (by omega))).wr (Wr.set w.heap.size 2 _ _) (.inr (by omega))).wr (Wr.set w.heap.size 3 _ _) (.inr (by omega))).wr (Wr.set w.heap.size 4 _ _) (.inr (by omega))), (((((HWa.out.setNewI (p := ⟨w.heap.size, 0, none⟩) (Nat.le_refl _) _).setNewI (p := ⟨w.heap.size, 1, none⟩) (Nat.le_refl _) _).setNewI (p := ⟨w.heap.size, 2, none⟩) (Nat.le_refl _) _).setNewI (p := ⟨w.heap.size, 3, none⟩) (Nat.le_refl _) _).setNewI (p := ⟨w.heap.size, 4, none⟩) (Nat.le_refl _) _)⟩
              have hb3 := ((Wr.set w.heap.size 4 _ (.bool false)).box ((Wr.set w.heap.size 3 _ (.int .i64 0)).box ((Wr.set w.heap.size 2 _ (.int .i64 0)).box ((Wr.set w.heap.size 1 _ (.slice (some ⟨g3, 0, none⟩) i i)).box ((Wr.set w.heap.size 0 _ (.int .i64 (a : Nat))).box HB3a.out (by omega)) (by omega)) (by omega)) (by omega)) (by omega))
              exact boxLies hb3 rfl
          · have HGE3 : Hid (out = ((k3, E), (0 : Int), ([] : List Int), (0 : Int), (0 : Int), false)) := HGE2.out.trans (by rw [if_neg hE])
            rw [if_neg hE] at KC
            clear hE
            clear HGE2
            go_region_with (first | (go_at_call 38; refine Calls.mono (KS.out _) ?_; rintro r w9 ⟨rfl, hbd, h2⟩; have HD9 := Lib.hid (HD.out.trans h2); have K := Lib.hid (KC.out w9 _ HD9.out hbd); have HB59 := Lib.hid (HB5.out.below HD9.out HB5.out.lt); obtain ⟨v0, v1, v2, v3, v4⟩ := HB59.out.five; clear h2 hbd) | (go_at_call 46; refine Calls.mono K.out ?_; rintro r wa ⟨rfl, h1, h2⟩; have HRa := Lib.hid h1; have HXa := Lib.hid (h2.box (HXn.out.below HD9.out HXn.out.lt) HNE.out.2.2.1); have HB3a := Lib.hid (h2.box (HB3.out.below HD9.out HB3.out.lt) HNE.out.1); have HWa := Lib.hid ((HW.out.trans (Wr.of g HD9.out)).trans h2); clear h1 h2; obtain ⟨t0, t1, t2, t3, t4⟩ := HXa.out.five; obtain ⟨f0, f1, f2, f3, f4⟩ := HXa.out.frees))
            all_goals
              have hne := HNE.out
              go_wp2
              have z0 := (HXa.out.set 0 (.int .i64 0)).cell 0
              have z1 := ((HXa.out.set 0 (.int .i64 0)).set 1 (.slice none 0 0)).cell 1
              have z2 := (((HXa.out.set 0 (.int .i64 0)).set 1 (.slice none 0 0)).set 2 (.int .i64 0)).cell 2
              have z3 := ((((HXa.out.set 0 (.int .i64 0)).set 1 (.slice none 0 0)).set 2 (.int .i64 0)).set 3 (.int .i64 0)).cell 3
              have z4 := (((((HXa.out.set 0 (.int .i64 0)).set 1 (.slice none 0 0)).set 2 (.int .i64 0)).set 3 (.int .i64 0)).set 4 (.bool false)).cell 4
              refine bodyPost_ret (v := .agg #[.int .i64 0, .slice none 0 0, .int .i64 0, .int .i64 0, .bool false]) (by simp [results, Tryz.results17, go_sem, z0, z1, z2, z3, z4]) rfl ?_
              rw [HGE3.out]
              exact ⟨none, 0, rfl, lies0, (((((HRa.out.wr (Wr.set w.heap.size 0 _ _) (.inr (by omega))).wr (Wr.set w.heap.size 1 _ _) (.inr (by omega))).wr (Wr.set w.heap.size 2 _ _) (.inr (by omega))).wr (Wr.set w.heap.size 3 _ _) (.inr (by omega))).wr (Wr.set w.heap.size 4 _ _) (.inr (by omega))), (((((HWa.out.setNewI (p := ⟨w.heap.size, 0, none⟩) (Nat.le_refl _) _).setNewI (p := ⟨w.heap.size, 1, none⟩) (Nat.le_refl _) _).setNewI (p := ⟨w.heap.size, 2, none⟩) (Nat.le_refl _) _).setNewI (p := ⟨w.heap.size, 3, none⟩) (Nat.le_refl _) _).setNewI (p := ⟨w.heap.size, 4, none⟩) (Nat.le_refl _) _)⟩
end Go.Proofs.YtpoemflclbhekaaGreat
