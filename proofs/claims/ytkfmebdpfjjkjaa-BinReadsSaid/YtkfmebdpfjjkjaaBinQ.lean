/- Layer 21 (bin): rows of pairs of numbers; the law's ask, whatever is asked; a law's memory. -/
import Derived.Test.YtkfmebdpfjjkjaaBinZ
import Derived.Test.YtkfmebdpfjjkjaaVecT
import Derived.Lib.SmallJoins
import Derived.OpenShut
import Derived.ProofKit
namespace Go.Proofs.Ytkfmebdpfjjkjaa
open Go.RowKit Go.WideShapes Go.ChangeShapes Go.Joins Go.Deep
set_option linter.unusedVariables false
set_option linter.unusedSimpArgs false

def LiesK (w : World) (B : Nat) (A : Option Addr) (l : List (Int × Int)) : Prop :=
  0 < l.length → ∃ ad : Addr, A = some ad ∧ ad.block < B ∧ ∀ j, j < l.length → w.cell? (ad.add (j * 2)) = some (.int .i64 (l.getD j ((0 : Int), (0 : Int))).1) ∧ w.cell? (ad.add (j * 2 + 1)) = some (.int .i64 (l.getD j ((0 : Int), (0 : Int))).2)
theorem LiesK.nil {w : World} {B : Nat} {A : Option Addr} : LiesK w B A [] := fun h => absurd h (by simp)
theorem LiesK.below {w w' : World} {B : Nat} {A : Option Addr} {l : List (Int × Int)} (h : LiesK w B A l) (hb : Below B w w') : LiesK w' B A l := fun h0 => by
  obtain ⟨ad, e, hB, hc⟩ := h h0
  refine ⟨ad, e, hB, fun j hj => ?_⟩
  obtain ⟨c0, c1⟩ := hc j hj
  exact ⟨(hb.cell (by rw [add_block]; exact hB)).trans c0, (hb.cell (by rw [add_block]; exact hB)).trans c1⟩
theorem LiesK.mono {w : World} {B B' : Nat} {A : Option Addr} {l : List (Int × Int)} (h : LiesK w B A l) (hB : B ≤ B') : LiesK w B' A l := fun h0 => by
  obtain ⟨ad, e, hb, hc⟩ := h h0
  exact ⟨ad, e, by omega, hc⟩
theorem fldK (ad : Addr) (n m : Nat) (h : 0 < m) : (⟨(ad.add n).block, (ad.add n).off + m, none⟩ : Addr) = ad.add (n + m) := by
  unfold Addr.add
  by_cases g : n = 0
  · subst g
    simp
    omega
  · simp [g, show ¬ n + m = 0 from by omega]
    omega
theorem add_addK (ad : Addr) (n m : Nat) : (ad.add n).add m = ad.add (n + m) := by
  unfold Addr.add
  by_cases g : n = 0
  · subst g; simp
  · by_cases k : m = 0
    · subst k; simp [g]
    · simp [g, k]; omega
theorem LiesK.at {w : World} {B : Nat} {A : Option Addr} {l : List (Int × Int)} (h : LiesK w B A l) {k : Nat} (hk : k < l.length) : ∃ ad : Addr, A = some ad ∧ ad.block < B ∧ w.cell? (ad.add (k * 2)) = some (.int .i64 (l.getD k ((0 : Int), (0 : Int))).1) ∧ w.cell? ⟨(ad.add (k * 2)).block, (ad.add (k * 2)).off + 1, none⟩ = some (.int .i64 (l.getD k ((0 : Int), (0 : Int))).2) := by
  obtain ⟨ad, e, hb, hc⟩ := h (by omega)
  obtain ⟨c0, c1⟩ := hc k hk
  exact ⟨ad, e, hb, c0, by rw [fldK _ _ _ (by omega)]; exact c1⟩
section
variable {H : Type} {enc : TypeId × Value → H}
theorem open_asks {P : Program} {W : World} {base : Nat} {t e : TypeId} {v : Value} {d : DataW H} {p : List MemPlace} {f0 f1 : Field} (ht : P.underlying t = some (.slice e)) (he : P.underlying e = some (.struct #[f0, f1])) (hc : P.cellsOf e = 2)
    (ho : (f0.offset, f1.offset) = (0, 1)) (hs : (P.cellsOf f0.type, P.cellsOf f1.type) = (1, 1))
    (hu : (P.underlying f0.type, P.underlying f1.type) = (some (.int .i64), some (.int .i64)))
    (hv : Value.okWide P W .any base t v) (h : DataW.Trod enc P W 0 (fun _ => true) true t v d p) :
    ∃ A l c, v = .slice A l.length c ∧ LiesK W W.heap.size A l ∧ (∀ x ∈ l, I64 x.1 ∧ I64 x.2) ∧ l.length ≤ 9223372036854775807 ∧ l.length ≤ c ∧ (A = none → c = 0) := by
  simp only [Prod.mk.injEq] at ho hs hu
  obtain ⟨o0, o1⟩ := ho
  obtain ⟨s0, s1⟩ := hs
  obtain ⟨u0, u1⟩ := hu
  obtain ⟨a0, len, cap, rfl⟩ := okWide_slice ht hv
  obtain ⟨fuel, hf⟩ := h
  rcases open_slice ht hf with ⟨hcs, _⟩ | ⟨a, len', cap', m, n, D, Pl, hcs, _, hle, hm, hmm, _, hx⟩
  · simp [Value.cells] at hcs
    obtain ⟨rfl, rfl, rfl⟩ := hcs
    exact ⟨none, [], 0, rfl, LiesK.nil, (fun x hx => by cases hx), by simp, by simp, fun _ => rfl⟩
  · simp [Value.cells] at hcs
    obtain ⟨rfl, rfl, rfl⟩ := hcs
    simp only [if_true] at hmm
    subst hmm
    rw [hc] at hx
    have each : ∀ i, i < m → ∃ x : Int × Int, (I64 x.1 ∧ I64 x.2) ∧ W.cell? (a.add (i * 2)) = some (.int .i64 x.1) ∧ W.cell? (a.add (i * 2 + 1)) = some (.int .i64 x.2) := fun i hi => by
      obtain ⟨cs', h1, h2⟩ := hx i hi
      obtain ⟨_, hlen, hcell⟩ := World.cells?_some h1
      obtain ⟨xs, n', _, _, _, hxl, hfl⟩ := DataW.trod_struct he h2
      match cs', hlen, xs, hxl with
      | [v0, v1], _, [y0, y1], _ =>
        have t0 := hfl 0 f0 rfl
        have t1 := hfl 1 f1 rfl
        rw [o0, s0] at t0
        rw [o1, s1] at t1
        obtain ⟨n0, e0, _, w0⟩ := DataW.trod_int u0 t0
        obtain ⟨n1, e1, _, w1⟩ := DataW.trod_int u1 t1
        simp at e0 e1
        subst e0 e1
        have k := fun j (hj : j < 2) => hcell j hj
        simp only [add_addK] at k
        exact ⟨⟨n0, n1⟩, ⟨i64_of_wf w0, i64_of_wf w1⟩, k 0 (by omega), k 1 (by omega)⟩
    obtain ⟨X, hX⟩ := choose_lt each
    have hg : ∀ j, j < len → ((List.range len).map X).getD j ((0 : Int), (0 : Int)) = X j := fun j hj => by simp [List.getD, hj]
    refine ⟨some a, (List.range len).map X, m, by simp, fun h0 => ⟨a, rfl, ?_, fun j hj => ?_⟩, fun x hx => ?_, by unfold maxLen at hm; simp; omega, by simp; omega, fun h => by cases h⟩
    · have h0' : 0 < len := by simpa using h0
      have h1 := (hX 0 (by omega)).2.1
      have h2 := World.block_lt_of_cell? W (a.add (0 * 2)) h1
      rw [add_block] at h2
      exact h2
    · have hj' : j < len := by simpa using hj
      rw [hg j hj']
      exact (hX j (by omega)).2
    · obtain ⟨j, hj, rfl⟩ := List.mem_map.1 hx
      have hj' := List.mem_range.1 hj
      exact (hX j (by omega)).1
end
/-- what is asked, whatever it is -/
def AskR (g B : Nat) (b : List Int) (A : Option Addr) (c : Nat) (w : World) (r : Ending) (w' : World) : Prop :=
  ∃ (k' : Nat) (e' : Int), r = .returned (.tuple #[.agg #[.slice A b.length c, .int .i64 (k' : Nat), .int .i64 e'], .bool true]) ∧ RdAt w' B g b k' e' ∧ Wr g w w'
theorem ask21 (b : List Int) (A : Option Addr) (c k B g : Nat) (e K m : Int) (hm : I64 m) (w : World) (hR : RdAt w B g b k e) (hA : LiesY w g A b) (hbc : b.length ≤ c) (hc : c ≤ 9223372036854775807) :
    Calls Try.prog 30 #[.pointer (some ⟨g, 0, none⟩), .agg #[.slice A b.length c, .int .i64 (k : Nat), .int .i64 e], .agg #[.int .i64 K, .int .i64 m]] w (AskR g B b A c w) := by
  have hA2 : LiesY w w.heap.size A b := hA.mono (Nat.le_of_lt hR.lt.1)
  by_cases h0 : K = 0
  · subst h0; exact (ask21_0 b A c k B g e m w hR hA2).mono fun r w' h => ⟨_, _, h⟩
  by_cases h1 : K = 1
  · subst h1; exact (ask21_1 b A c k B g e m hm w hR hA2).mono fun r w' h => ⟨_, _, h⟩
  by_cases h2 : K = 2
  · subst h2; exact (ask21_2 b A c k B g e m w hR hA2).mono fun r w' h => ⟨_, _, h⟩
  by_cases h3 : K = 3
  · subst h3; exact (ask21_3 b A c k B g e m hm w hR hA hbc hc).mono fun r w' h => ⟨_, _, h⟩
  by_cases h4 : K = 4
  · subst h4; exact (ask21_4 b A c k B g e m hm w hR hA hbc hc).mono fun r w' h => ⟨_, _, h⟩
  by_cases h5 : K = 5
  · subst h5; exact (ask21_5 b A c k B g e m w hR).mono fun r w' h => ⟨_, _, h⟩
  have q : ∀ j : Int, ¬ K = j → (K == j) = false := fun j h => by simpa using h
  exact (ask21_6 b A c k B g e m K (q 0 h0) (q 1 h1) (q 2 h2) (q 3 h3) (q 4 h4) (q 5 h5) w hR).mono fun r w' h => ⟨_, _, h⟩
/-- the law's memory, in its loop -/
structure RJ (b : List Int) (l : List (Int × Int)) (A A2 : Option Addr) (c B g G k : Nat) (e : Int) (w wx : World) : Prop where
  r : RdAt wx B g b k e
  x : Box wx G #[.slice A b.length c, .int .i64 (k : Nat), .int .i64 e] 56
  y : LiesY wx g A b
  l : LiesK wx g A2 l
  b : Below w.heap.size w wx
  hg : g < G
  hw : w.heap.size ≤ g
theorem RJ.up {b : List Int} {l : List (Int × Int)} {A A2 : Option Addr} {c B g G k : Nat} {e : Int} {w wx wy : World} (h : RJ b l A A2 c B g G k e w wx) (hb : Below wx.heap.size wx wy) : RJ b l A A2 c B g G k e w wy :=
  ⟨h.r.below hb, h.x.below hb h.x.lt, h.y.below (hb.mono (Nat.le_of_lt h.r.lt.1)), h.l.below (hb.mono (Nat.le_of_lt h.r.lt.1)), h.b.trans (hb.mono h.b.size), h.hg, h.hw⟩
/-- the box of the reference's is written -/
theorem RJ.fin {b : List Int} {l : List (Int × Int)} {A A2 : Option Addr} {c B g G k k' : Nat} {e e' : Int} {w wx wz : World} (h : RJ b l A A2 c B g G k e w wx) (h1 : RdAt wz B g b k' e') (h2 : Box wz G #[.slice A b.length c, .int .i64 (k : Nat), .int .i64 e] 56) (hlow : Below g wx wz) :
    RJ b l A A2 c B g G k' e' w (((wz.setCell ⟨G, 0, none⟩ (.slice A b.length c)).setCell ⟨G, 1, none⟩ (.int .i64 (k' : Nat))).setCell ⟨G, 2, none⟩ (.int .i64 e')) := by
  have hG := h.hg
  have hwg := h.hw
  refine ⟨?_, ((h2.set 0 _).set 1 _).set 2 _, ?_, ?_, ?_, hG, hwg⟩
  · exact ((h1.wr (Wr.set G 0 _ _) (.inr hG)).wr (Wr.set G 1 _ _) (.inr hG)).wr (Wr.set G 2 _ _) (.inr hG)
  · exact h.y.below (((hlow.setCell (p := ⟨G, 0, none⟩) (Nat.le_of_lt hG) _).setCell (p := ⟨G, 1, none⟩) (Nat.le_of_lt hG) _).setCell (p := ⟨G, 2, none⟩) (Nat.le_of_lt hG) _)
  · exact h.l.below (((hlow.setCell (p := ⟨G, 0, none⟩) (Nat.le_of_lt hG) _).setCell (p := ⟨G, 1, none⟩) (Nat.le_of_lt hG) _).setCell (p := ⟨G, 2, none⟩) (Nat.le_of_lt hG) _)
  · have h3 : Below w.heap.size w wz := h.b.trans (hlow.mono hwg)
    exact ((h3.setCell (p := ⟨G, 0, none⟩) (by show _ ≤ G; omega) _).setCell (p := ⟨G, 1, none⟩) (by show _ ≤ G; omega) _).setCell (p := ⟨G, 2, none⟩) (by show _ ≤ G; omega) _
/-- what is there between ask and the store -/
def MidR (b : List Int) (l : List (Int × Int)) (A A2 : Option Addr) (c B g G k : Nat) (e : Int) (w : World) (G8 k' : Nat) (e' : Int) (wz : World) : Prop :=
  k' ≤ b.length ∧ Box wz G8 #[.slice A b.length c, .int .i64 (k' : Nat), .int .i64 e'] 56 ∧ Box wz G #[.slice A b.length c, .int .i64 (k : Nat), .int .i64 e] 56 ∧ ¬ G8 = G ∧
    RJ b l A A2 c B g G k' e' w (((wz.setCell ⟨G, 0, none⟩ (.slice A b.length c)).setCell ⟨G, 1, none⟩ (.int .i64 (k' : Nat))).setCell ⟨G, 2, none⟩ (.int .i64 e'))
/-- the new box was made behind ask -/
theorem RJ.mid2 {b : List Int} {l : List (Int × Int)} {A A2 : Option Addr} {c B g G k k' : Nat} {e e' : Int} {w wx wy : World} (h : RJ b l A A2 c B g G k e w wx) (hr : RdAt wy B g b k' e') (hw : Wr g wx wy) :
    MidR b l A A2 c B g G k e w wy.heap.size k' e' (wy.alloc (.cells #[.slice A b.length c, .int .i64 (k' : Nat), .int .i64 e'] 56)) := by
  have hG := h.hg
  have hal := (Below.refl wy.heap.size wy).alloc (Nat.le_refl _) (.cells #[.slice A b.length c, .int .i64 (k' : Nat), .int .i64 e'] 56)
  have h2 := hw.box h.x (by omega)
  have h3 := h2.below hal h2.lt
  exact ⟨hr.lt.2.2.1, Box.new wy _ _, h3, by have := h2.lt; omega, h.fin (hr.below hal) h3 ((hw.low (Nat.le_refl _) (Nat.le_of_lt h.r.lt.1)).trans (hal.mono (Nat.le_of_lt hr.lt.1)))⟩
/-- the new box was made ahead of ask -/
theorem RJ.mid1 {b : List Int} {l : List (Int × Int)} {A A2 : Option Addr} {c B g G k k' G8 : Nat} {e e' : Int} {w wx wy : World} {z : Array Value} (h : RJ b l A A2 c B g G k e w wx) (h8 : Box wx G8 z 56) (hz : z.size = 3) (hG8 : G < G8) (hr : RdAt wy B g b k' e') (hw : Wr g wx wy) :
    MidR b l A A2 c B g G k e w G8 k' e' (((wy.setCell ⟨G8, 0, none⟩ (.slice A b.length c)).setCell ⟨G8, 1, none⟩ (.int .i64 (k' : Nat))).setCell ⟨G8, 2, none⟩ (.int .i64 e')) := by
  have hG := h.hg
  have h2 := hw.box h.x (by omega)
  have h9 := hw.box h8 (by omega)
  have k1 : Wr G8 wy (((wy.setCell ⟨G8, 0, none⟩ (.slice A b.length c)).setCell ⟨G8, 1, none⟩ (.int .i64 (k' : Nat))).setCell ⟨G8, 2, none⟩ (.int .i64 e')) := ((Wr.set G8 0 _ _).trans (Wr.set G8 1 _ _)).trans (Wr.set G8 2 _ _)
  have h3 := k1.box h2 (by omega)
  refine ⟨hr.lt.2.2.1, ?_, h3, by omega, h.fin (hr.wr k1 (.inr (by omega))) h3 ((hw.low (Nat.le_refl _) (Nat.le_of_lt h.r.lt.1)).trans (k1.low (by omega) (Nat.le_of_lt hr.lt.1)))⟩
  have := ((h9.set 0 (.slice A b.length c)).set 1 (.int .i64 (k' : Nat))).set 2 (.int .i64 e')
  match z, hz with
  | ⟨[z0, z1, z2]⟩, _ => exact this
end Go.Proofs.Ytkfmebdpfjjkjaa
