import Derived.Test.YteljkppcaanniaaVecN
import Derived.Test.YteljkppcaanniaaVecP
import Derived.Test.YteljkppcaanniaaVecP
import Derived.Test.YteljkppcaanniaaVecP

/-! What the statements of layer 8 ask of every program. -/
namespace Go.Proofs.Yteljkppcaanniaa
open Go.RowKit
set_option linter.unusedVariables false
set_option linter.unusedSimpArgs false

/-- blocks that are known, above what was there -/
def Kps (B : Nat) (W : World) (l : List (Nat × Array Value × TypeId)) (w : World) : Prop := (∀ x ∈ l, Box w x.1 x.2.1 x.2.2) ∧ Below B W w ∧ B ≤ w.heap.size
theorem Kps.below {B : Nat} {W w w' : World} {l : List (Nat × Array Value × TypeId)} (h : Kps B W l w) (hb : Below w.heap.size w w') : Kps B W l w' :=
  ⟨fun x hx => (h.1 x hx).below hb (h.1 x hx).lt, h.2.1.trans (hb.mono h.2.2), Nat.le_trans h.2.2 hb.size⟩
theorem Kps.alloc {B : Nat} {W w : World} {l : List (Nat × Array Value × TypeId)} (h : Kps B W l w) (cs : Array Value) (t : TypeId) : Kps B W ((w.heap.size, cs, t) :: l) (w.alloc (.cells cs t)) := by
  refine ⟨fun x hx => ?_, h.2.1.alloc h.2.2 _, by rw [alloc_size']; have := h.2.2; omega⟩
  rcases List.mem_cons.1 hx with rfl | hx
  · exact Box.new w cs t
  · exact (h.1 x hx).alloc _
theorem Kps.start (w : World) : Kps w.heap.size w [] w := ⟨fun x hx => (by cases hx), Below.refl _ _, Nat.le_refl _⟩
theorem Kps.b {B : Nat} {W w : World} {l : List (Nat × Array Value × TypeId)} (h : Kps B W l w) : Below B W w := h.2.1
theorem Kps.sz {B : Nat} {W w : World} {l : List (Nat × Array Value × TypeId)} (h : Kps B W l w) : B ≤ w.heap.size := h.2.2
theorem Kps.box {B : Nat} {W w : World} {l : List (Nat × Array Value × TypeId)} (h : Kps B W l w) {g : Nat} {cs : Array Value} {t : TypeId} (hx : (g, cs, t) ∈ l) : Box w g cs t := h.1 _ hx
theorem Kps.drewN {B : Nat} {W w : World} {l : List (Nat × Array Value × TypeId)} (h : Kps B W l w) (n : Nat) : Kps B W l (w.drewN n) := ⟨fun x hx => (h.1 x hx).drewN n, below_drewN2 h.2.1 n, h.2.2⟩
theorem Kps.dr {B : Nat} {W w w' : World} {l : List (Nat × Array Value × TypeId)} (h : Kps B W l w) (hw : ∃ n, w' = w.drewN n) : Kps B W l w' := by
  obtain ⟨n, rfl⟩ := hw; exact h.drewN n
theorem box_lies {w : World} {g : Nat} {cs : Array Value} {l : List Int} (h : Box w g cs 3) (hc : cs = (litI l).toArray) : Lies w w.heap.size (some ⟨g, 0, none⟩) l := fun _ => by
  refine ⟨⟨g, 0, none⟩, rfl, h.lt, fun j hj => ?_⟩
  have h1 : (⟨g, 0, none⟩ : Addr).add j = ⟨g, j, none⟩ := by unfold Addr.add; split <;> simp_all
  rw [h1, h.cell j, hc]
  rw [← litI_get l j hj]; simp
theorem box_liesR {w : World} {g : Nat} {cs : Array Value} {R : List Row} (h : Box w g cs 24) (hc : cs = (R.map rowV).toArray) (hr : ∀ r ∈ R, Lies w w.heap.size r.a r.l) : LiesR w w.heap.size (some ⟨g, 0, none⟩) R := by
  refine ⟨fun _ => ⟨⟨g, 0, none⟩, rfl, h.lt, fun j hj => ?_⟩, hr⟩
  have h1 : (⟨g, 0, none⟩ : Addr).add j = ⟨g, j, none⟩ := by unfold Addr.add; split <;> simp_all
  rw [h1, h.cell j, hc]
  simp [List.getD, hj]
theorem Kps.li {B : Nat} {W w : World} {L : List (Nat × Array Value × TypeId)} (h : Kps B W L w) {g : Nat} {l : List Int} (hx : (g, (litI l).toArray, 3) ∈ L) : Lies w w.heap.size (some ⟨g, 0, none⟩) l := box_lies (h.box hx) rfl
abbrev R2 (a b : Option Addr) : List Row := [⟨a, [1, 5], 2⟩, ⟨b, [3, 2], 2⟩]
theorem lv1 : dotN [2, -1] [5, 7] = 3 ∧ dotC [2, -1] [5, 7] = 0 := by decide +kernel
theorem lv2 (a b : Option Addr) : boxLo (R2 a b) 2 = [1, 2] ∧ boxHi (R2 a b) 2 = [3, 5] ∧ boxC (R2 a b) 2 = 0 := ⟨rfl, rfl, rfl⟩
theorem lv3 (a b : Option Addr) : reachLo [1, 1] (R2 a b) = 5 ∧ reachHi [1, 1] (R2 a b) = 6 ∧ reachC [1, 1] (R2 a b) = 0 := ⟨rfl, rfl, rfl⟩
theorem lv4 : gapNN [1, 5] [3, 2] = 5 ∧ gapCC [1, 5] [3, 2] = 0 := by decide +kernel
theorem lv5 (a b : Option Addr) : nearAt (R2 a b) [3, 3] = 1 ∧ nearFar (R2 a b) [3, 3] = 1 ∧ nearC (R2 a b) [3, 3] = 0 := ⟨rfl, rfl, rfl⟩
theorem lv6 : isV [1, 5] 2 = true ∧ isV [1, 5] 3 = false ∧ partsV [0, 4] 2 = true ∧ partsV [0] 1 = false ∧ inV [1, 2] [3, 5] [1, 5] = true ∧ openL [1, 2] [3, 5] = [0, 1] ∧ ordL [1, 5] [3, 2] = -1 := by decide +kernel
theorem okR2 (a b : Option Addr) : OkR (R2 a b) := by
  intro r hr
  simp at hr
  rcases hr with rfl | rfl <;> refine ⟨by simp, by simp, fun x hx => ?_⟩ <;> (simp at hx; unfold I64; omega)
/-- what the calls of lives know -/
def St8 (B : Nat) (W : World) (s : Nat) (A1 A2 : Option Addr) (w : World) : Prop :=
  (Below B W w ∧ B ≤ w.heap.size) ∧ (Box w s #[.int .i64 1, .int .i64 5] 3 ∧ Box w (s + 1) #[.int .i64 3, .int .i64 2] 3 ∧ Box w (s + 1 + 1) #[.slice (some ⟨s, 0, none⟩) 2 2, .slice (some ⟨s + 1, 0, none⟩) 2 2] 24) ∧ Lies w w.heap.size A1 [1, 2] ∧ Lies w w.heap.size A2 [3, 5]
theorem St8.below {B : Nat} {W : World} {s : Nat} {A1 A2 : Option Addr} {w w' : World} (h : St8 B W s A1 A2 w) (hb : Below w.heap.size w w') : St8 B W s A1 A2 w' := by
  obtain ⟨⟨h1, h2⟩, ⟨h3, h4, h5⟩, h6, h7⟩ := h
  exact ⟨⟨h1.trans (hb.mono h2), Nat.le_trans h2 hb.size⟩, ⟨h3.below hb h3.lt, h4.below hb h4.lt, h5.below hb h5.lt⟩, (h6.below hb).mono hb.size, (h7.below hb).mono hb.size⟩
theorem St8.al {B : Nat} {W : World} {s : Nat} {A1 A2 : Option Addr} {w : World} (h : St8 B W s A1 A2 w) (o : Obj) : St8 B W s A1 A2 (w.alloc o) := h.below ((Below.refl _ _).alloc (Nat.le_refl _) _)
theorem St8.dr {B : Nat} {W : World} {s : Nat} {A1 A2 : Option Addr} {w w' : World} (h : St8 B W s A1 A2 w) (hw : ∃ n, w' = w.drewN n) : St8 B W s A1 A2 w' := by
  obtain ⟨n, rfl⟩ := hw; exact h.below (below_drewN2 (Below.refl _ _) n)
theorem St8.c {B : Nat} {W : World} {s : Nat} {A1 A2 : Option Addr} {w : World} (h : St8 B W s A1 A2 w) : w.cell? ⟨s + 1 + 1, 0, none⟩ = some (.slice (some ⟨s, 0, none⟩) 2 2) ∧ w.cell? ⟨s + 1 + 1, 1, none⟩ = some (.slice (some ⟨s + 1, 0, none⟩) 2 2) := by
  have h5 := h.2.1.2.2
  exact ⟨h5.cell 0, h5.cell 1⟩
theorem St8.l0 {B : Nat} {W : World} {s : Nat} {A1 A2 : Option Addr} {w : World} (h : St8 B W s A1 A2 w) : Lies w w.heap.size (some ⟨s, 0, none⟩) [1, 5] := box_lies (l := [1, 5]) h.2.1.1 rfl
theorem St8.l1 {B : Nat} {W : World} {s : Nat} {A1 A2 : Option Addr} {w : World} (h : St8 B W s A1 A2 w) : Lies w w.heap.size (some ⟨s + 1, 0, none⟩) [3, 2] := box_lies (l := [3, 2]) h.2.1.2.1 rfl
theorem St8.r {B : Nat} {W : World} {s : Nat} {A1 A2 : Option Addr} {w : World} (h : St8 B W s A1 A2 w) : LiesR w w.heap.size (some ⟨s + 1 + 1, 0, none⟩) (R2 (some ⟨s, 0, none⟩) (some ⟨s + 1, 0, none⟩)) :=
  box_liesR (R := R2 (some ⟨s, 0, none⟩) (some ⟨s + 1, 0, none⟩)) h.2.1.2.2 rfl (fun r hr => by
    rcases List.mem_cons.1 hr with rfl | hr
    · exact h.l0
    · rw [List.mem_singleton.1 hr]; exact h.l1)
theorem St8.lo {B : Nat} {W : World} {s : Nat} {A1 A2 : Option Addr} {w : World} (h : St8 B W s A1 A2 w) : Lies w w.heap.size A1 [1, 2] := h.2.2.1
theorem St8.hi {B : Nat} {W : World} {s : Nat} {A1 A2 : Option Addr} {w : World} (h : St8 B W s A1 A2 w) : Lies w w.heap.size A2 [3, 5] := h.2.2.2
theorem St8.b {B : Nat} {W : World} {s : Nat} {A1 A2 : Option Addr} {w : World} (h : St8 B W s A1 A2 w) : Below B W w := h.1.1
theorem new_lies (w : World) (l : List Int) : Lies (w.alloc (.cells (litI l).toArray 3)) (w.alloc (.cells (litI l).toArray 3)).heap.size (some ⟨w.heap.size, 0, none⟩) l := box_lies (Box.new w _ _) rfl
theorem qd_below {w w' : World} (h : ∃ n, w' = w.drewN n) : Below w.heap.size w w' := by obtain ⟨n, rfl⟩ := h; exact below_drewN2 (Below.refl _ _) n
/-- the frame in front of the last region of lives, and behind each of its operations -/
def lvB (s : Nat) (A1 A2 : Option Addr) (c1 c2 : Nat) : Nat → Option Value
  | 1 => some (.int .i64 3)
  | 2 => some (.int .i64 0)
  | 3 => some (.slice (some ⟨s + 1 + 1, 0, none⟩) 2 2)
  | 4 => some (.slice A1 2 c1)
  | 5 => some (.slice A2 2 c2)
  | 6 => some (.int .i64 0)
  | 7 => some (.int .i64 5)
  | 8 => some (.int .i64 6)
  | 9 => some (.int .i64 0)
  | 10 => some (.int .i64 5)
  | 11 => some (.int .i64 0)
  | 12 => some (.int .i64 1)
  | 13 => some (.int .i64 1)
  | 14 => some (.int .i64 0)
  | _ => none
def lvE (s : Nat) (A1 A2 : Option Addr) (c1 c2 : Nat) : Nat → Option Value
  | 0 => some (.int .i64 3)
  | 1 => some (.bool true)
  | 2 => some (.bool true)
  | 3 => some (.int .i64 0)
  | 4 => some (.bool true)
  | 5 => some (.bool true)
  | 6 => some (.bool true)
  | 7 => some (.slice A1 2 c1)
  | 9 => some (.bool true)
  | 10 => some (.bool true)
  | 11 => some (.bool true)
  | 12 => some (.slice A2 2 c2)
  | 14 => some (.bool true)
  | 15 => some (.bool true)
  | 16 => some (.bool true)
  | 17 => some (.int .i64 0)
  | 18 => some (.bool true)
  | 19 => some (.bool true)
  | 20 => some (.bool true)
  | 21 => some (.int .i64 5)
  | 22 => some (.bool true)
  | 23 => some (.bool true)
  | 24 => some (.bool true)
  | 25 => some (.int .i64 6)
  | 26 => some (.bool true)
  | 27 => some (.bool true)
  | 28 => some (.bool true)
  | 29 => some (.int .i64 0)
  | 30 => some (.bool true)
  | 31 => some (.bool true)
  | 32 => some (.bool true)
  | 33 => some (.int .i64 5)
  | 34 => some (.bool true)
  | 35 => some (.bool true)
  | 36 => some (.bool true)
  | 37 => some (.int .i64 0)
  | 38 => some (.bool true)
  | 39 => some (.bool true)
  | 40 => some (.bool true)
  | 41 => some (.int .i64 1)
  | 42 => some (.bool true)
  | 43 => some (.bool true)
  | 44 => some (.bool true)
  | 45 => some (.int .i64 1)
  | 46 => some (.bool true)
  | 47 => some (.bool true)
  | 48 => some (.bool true)
  | 49 => some (.int .i64 0)
  | 50 => some (.bool true)
  | 51 => some (.bool true)
  | 52 => some (.bool true)
  | 53 => some (.slice (some ⟨s + 1 + 1, 0, none⟩) 2 2)
  | 54 => some (.pointer (some ⟨s + 1 + 1, 0, none⟩))
  | 55 => some (.slice (some ⟨s, 0, none⟩) 2 2)
  | 56 => some (.bool true)
  | 57 => some (.bool true)
  | 58 => some (.bool true)
  | 59 => some (.slice (some ⟨s + 1 + 1, 0, none⟩) 2 2)
  | 60 => some (.pointer (some ⟨s + 1 + 1, 0, none⟩))
  | 61 => some (.slice (some ⟨s, 0, none⟩) 2 2)
  | 62 => some (.bool false)
  | 63 => some (.bool true)
  | 64 => some (.bool true)
  | 65 => some (.bool true)
  | 67 => some (.bool true)
  | 68 => some (.bool true)
  | 69 => some (.bool true)
  | 71 => some (.bool false)
  | 72 => some (.bool true)
  | 73 => some (.bool true)
  | 74 => some (.bool true)
  | 75 => some (.slice A1 2 c1)
  | 76 => some (.slice A2 2 c2)
  | 77 => some (.slice (some ⟨s + 1 + 1, 0, none⟩) 2 2)
  | 78 => some (.pointer (some ⟨s + 1 + 1, 0, none⟩))
  | 79 => some (.slice (some ⟨s, 0, none⟩) 2 2)
  | 80 => some (.bool true)
  | 81 => some (.bool true)
  | 82 => some (.bool true)
  | 83 => some (.slice A1 2 c1)
  | 84 => some (.slice A2 2 c2)
  | 86 => some (.int .i64 2)
  | 87 => some (.bool true)
  | 88 => some (.bool true)
  | 89 => some (.bool true)
  | 90 => some (.slice (some ⟨s + 1 + 1, 0, none⟩) 2 2)
  | 91 => some (.pointer (some ⟨s + 1 + 1, 0, none⟩))
  | 92 => some (.slice (some ⟨s, 0, none⟩) 2 2)
  | 93 => some (.slice (some ⟨s + 1 + 1, 0, none⟩) 2 2)
  | 94 => some (.pointer (some ⟨s + 1 + 1, 1, none⟩))
  | 95 => some (.slice (some ⟨s + 1, 0, none⟩) 2 2)
  | 96 => some (.int .i64 (-1))
  | 97 => some (.bool true)
  | 98 => some (.bool true)
  | _ => none
/-- a list of its own -/
def Bv (v : Value) (w : World) (l : List Int) : Prop := ∃ g, v = .slice (some ⟨g, 0, none⟩) l.length l.length ∧ Lies w w.heap.size (some ⟨g, 0, none⟩) l
theorem Bv.below {v : Value} {w w' : World} {l : List Int} (h : Bv v w l) (hb : Below w.heap.size w w') : Bv v w' l := by
  obtain ⟨g, e, hl⟩ := h
  exact ⟨g, e, (hl.below hb).mono hb.size⟩
structure LJ (B : Nat) (W : World) (s : Nat) (A1 A2 : Option Addr) (c1 c2 : Nat) (f : Nat → Bool) (a : Act) (w : World) : Prop where
  sz : a.tmps.size = 153
  df : a.defers = []
  base : ∀ t u, lvB s A1 A2 c1 c2 t = some u → a.tmps.getD t undef = u
  val : ∀ i u, f i = true → lvE s A1 A2 c1 c2 i = some u → a.tmps[54 + i]? = some u
  last : f 99 = true → a.tmps[0]? = some (.bool true)
  st : St8 B W s A1 A2 w
  b8 : f 8 = true → Bv (a.tmps.getD 62 undef) w [1, 2]
  b13 : f 13 = true → Bv (a.tmps.getD 67 undef) w [3, 5]
  b66 : f 66 = true → Bv (a.tmps.getD 120 undef) w [0, 4]
  b70 : f 70 = true → Bv (a.tmps.getD 124 undef) w [0]
  b85 : f 85 = true → ∃ A c, a.tmps.getD 139 undef = .slice A 2 c
theorem lvB_lt {s : Nat} {A1 A2 : Option Addr} {c1 c2 t : Nat} {u : Value} (h : lvB s A1 A2 c1 c2 t = some u) : 0 < t ∧ t < 54 := by
  unfold lvB at h
  split at h <;> first | omega | cases h
theorem lvE_lt {s : Nat} {A1 A2 : Option Addr} {c1 c2 t : Nat} {u : Value} (h : lvE s A1 A2 c1 c2 t = some u) : t < 99 := by
  unfold lvE at h
  split at h <;> first | omega | cases h
theorem put_get {a : Act} {t r : Nat} {v : Value} (h : r ≠ t) : (a.put (some t) v).tmps[r]? = a.tmps[r]? := by
  simp [Act.put, Array.getElem?_setIfInBounds, Ne.symm h]
theorem put_getD {a : Act} {t r : Nat} {v : Value} (h : r ≠ t) : (a.put (some t) v).tmps.getD r undef = a.tmps.getD r undef := by
  rw [Array.getD_eq_getD_getElem?, Array.getD_eq_getD_getElem?, put_get h]
theorem put_self {a : Act} {t : Nat} {v : Value} (h : t < a.tmps.size) : (a.put (some t) v).tmps[t]? = some v := by
  simp [Act.put, h]
theorem put_selfD {a : Act} {t : Nat} {v : Value} (h : t < a.tmps.size) : (a.put (some t) v).tmps.getD t undef = v := by
  rw [Array.getD_eq_getD_getElem?, put_self h]; rfl
theorem LJ.get {B : Nat} {W : World} {s : Nat} {A1 A2 : Option Addr} {c1 c2 : Nat} {f : Nat → Bool} {a : Act} {w : World} (h : LJ B W s A1 A2 c1 c2 f a w) (i : Nat) (hi : f i = true) {u : Value} (hu : lvE s A1 A2 c1 c2 i = some u) : a.tmps.getD (54 + i) undef = u := by
  rw [Array.getD_eq_getD_getElem?, h.val i u hi hu]; rfl
theorem LJ.alike {B : Nat} {W : World} {s : Nat} {A1 A2 : Option Addr} {c1 c2 : Nat} (f g : Nat → Bool) (a : Act) (w : World) (hfg : ∀ k, k < 100 → f k = g k) (h : LJ B W s A1 A2 c1 c2 f a w) : LJ B W s A1 A2 c1 c2 g a w where
  sz := h.sz
  df := h.df
  base := h.base
  val := fun i u hi hu => h.val i u (by rw [hfg i (by have := lvE_lt hu; omega)]; exact hi) hu
  last := fun hi => h.last (by rw [hfg 99 (by omega)]; exact hi)
  st := h.st
  b8 := fun hi => h.b8 (by rw [hfg 8 (by omega)]; exact hi)
  b13 := fun hi => h.b13 (by rw [hfg 13 (by omega)]; exact hi)
  b66 := fun hi => h.b66 (by rw [hfg 66 (by omega)]; exact hi)
  b70 := fun hi => h.b70 (by rw [hfg 70 (by omega)]; exact hi)
  b85 := fun hi => h.b85 (by rw [hfg 85 (by omega)]; exact hi)
theorem LJ.put {B : Nat} {W : World} {s : Nat} {A1 A2 : Option Addr} {c1 c2 : Nat} {f : Nat → Bool} {a : Act} {w w' : World} (h : LJ B W s A1 A2 c1 c2 f a w) (hb : Below w.heap.size w w') (i : Nat) (hi : i < 99) (v : Value) (hv : ∀ u, lvE s A1 A2 c1 c2 i = some u → v = u)
    (e8 : i = 8 → Bv v w' [1, 2]) (e13 : i = 13 → Bv v w' [3, 5]) (e66 : i = 66 → Bv v w' [0, 4]) (e70 : i = 70 → Bv v w' [0]) (e85 : i = 85 → ∃ A c, v = .slice A 2 c) :
    LJ B W s A1 A2 c1 c2 (fun k => if k = i then true else f k) (a.put (some (54 + i)) v) w' where
  sz := by simp only [Act.put, Array.size_setIfInBounds]; exact h.sz
  df := h.df
  base := fun t u hu => by rw [put_getD (by have := lvB_lt hu; omega)]; exact h.base t u hu
  val := fun j u hj hu => by
    by_cases g : j = i
    · subst g; rw [put_self (by rw [h.sz]; omega), hv u hu]
    · rw [put_get (by omega)]; exact h.val j u (by simpa [g] using hj) hu
  last := fun hl => by rw [put_get (by omega)]; exact h.last (by simpa [show ¬ 99 = i by omega] using hl)
  st := h.st.below hb
  b8 := fun hl => by
    by_cases g : 8 = i
    · subst g; rw [put_selfD (by rw [h.sz]; omega)]; exact e8 rfl
    · rw [put_getD (by omega)]; exact (h.b8 (by simpa [g] using hl)).below hb
  b13 := fun hl => by
    by_cases g : 13 = i
    · subst g; rw [put_selfD (by rw [h.sz]; omega)]; exact e13 rfl
    · rw [put_getD (by omega)]; exact (h.b13 (by simpa [g] using hl)).below hb
  b66 := fun hl => by
    by_cases g : 66 = i
    · subst g; rw [put_selfD (by rw [h.sz]; omega)]; exact e66 rfl
    · rw [put_getD (by omega)]; exact (h.b66 (by simpa [g] using hl)).below hb
  b70 := fun hl => by
    by_cases g : 70 = i
    · subst g; rw [put_selfD (by rw [h.sz]; omega)]; exact e70 rfl
    · rw [put_getD (by omega)]; exact (h.b70 (by simpa [g] using hl)).below hb
  b85 := fun hl => by
    by_cases g : 85 = i
    · subst g; rw [put_selfD (by rw [h.sz]; omega)]; exact e85 rfl
    · rw [put_getD (by omega)]; exact h.b85 (by simpa [g] using hl)
theorem LJ.fin {B : Nat} {W : World} {s : Nat} {A1 A2 : Option Addr} {c1 c2 : Nat} {f : Nat → Bool} {a : Act} {w : World} (h : LJ B W s A1 A2 c1 c2 f a w) :
    LJ B W s A1 A2 c1 c2 (fun k => if k = 99 then true else f k) (a.put (some 0) (.bool true)) w where
  sz := by simp only [Act.put, Array.size_setIfInBounds]; exact h.sz
  df := h.df
  base := fun t u hu => by rw [put_getD (by have := lvB_lt hu; omega)]; exact h.base t u hu
  val := fun j u hj hu => by
    have hj2 := lvE_lt hu
    rw [put_get (by omega)]; exact h.val j u (by simpa [show ¬ j = 99 by omega] using hj) hu
  last := fun _ => by rw [put_self (by rw [h.sz]; omega)]
  st := h.st
  b8 := fun hl => by rw [put_getD (by omega)]; exact h.b8 (by simpa using hl)
  b13 := fun hl => by rw [put_getD (by omega)]; exact h.b13 (by simpa using hl)
  b66 := fun hl => by rw [put_getD (by omega)]; exact h.b66 (by simpa using hl)
  b70 := fun hl => by rw [put_getD (by omega)]; exact h.b70 (by simpa using hl)
  b85 := fun hl => by rw [put_getD (by omega)]; exact h.b85 (by simpa using hl)
set_option maxRecDepth 100000 in
set_option maxHeartbeats 8000000 in
theorem lives8 (w : World) : Calls Try.prog 25 #[] w fun e w' => e = .returned (.bool true) ∧ Below w.heap.size w w' := by
  have J := Lib.hid (((Kps.start w).alloc #[.int .i64 2, .int .i64 (-1)] 3).alloc #[.int .i64 5, .int .i64 7] 3)
  rw [alloc_size'] at J
  go_enter Try.func25, Try.ntmps25
  go_wp2_with fail
  refine (vec_Dot (some ⟨w.heap.size, 0, none⟩) (some ⟨w.heap.size + 1, 0, none⟩) [2, -1] [5, 7] 2 2 _ _ (J.out.li (by simp [litI])) (J.out.li (by simp [litI])) (by decide) (by decide) (by decide) (by decide)).mono ?_
  rintro e w1 ⟨rfl, hw1⟩
  rw [lv1.1, lv1.2]
  have J1 := Lib.hid (((((J.out.dr hw1).alloc #[.int .i64 1, .int .i64 5] 3).alloc #[.int .i64 3, .int .i64 2] 3).alloc #[.slice (some ⟨w1.heap.size, 0, none⟩) 2 2, .slice (some ⟨w1.heap.size + 1, 0, none⟩) 2 2] 24))
  rw [alloc_size', alloc_size'] at J1
  clear hw1 J
  have HR := Lib.hid (box_liesR (R := R2 (some ⟨w1.heap.size, 0, none⟩) (some ⟨w1.heap.size + 1, 0, none⟩)) (J1.out.box (g := w1.heap.size + 1 + 1) (t := 24) (cs := #[.slice (some ⟨w1.heap.size, 0, none⟩) 2 2, .slice (some ⟨w1.heap.size + 1, 0, none⟩) 2 2]) (by simp)) rfl (fun r hr => by
      rcases List.mem_cons.1 hr with rfl | hr
      · exact J1.out.li (by simp [litI])
      · rw [List.mem_singleton.1 hr]; exact J1.out.li (by simp [litI])))
  go_wp2_with fail
  refine (vec_Box (some ⟨w1.heap.size + 1 + 1, 0, none⟩) (R2 (some ⟨w1.heap.size, 0, none⟩) (some ⟨w1.heap.size + 1, 0, none⟩)) 2 2 _ HR.out (okR2 _ _) (by simp) (by simp)).mono ?_
  rintro e w2 ⟨A1, c1, A2, c2, rfl, g1, g2, g3, g4, hb2⟩
  obtain ⟨e1, e2, e3⟩ := lv2 (some ⟨w1.heap.size, 0, none⟩) (some ⟨w1.heap.size + 1, 0, none⟩)
  rw [e1, e2, e3]
  rw [e1] at g1 g3
  rw [e2] at g2 g4
  clear e1 e2 e3 HR
  have J2 := J1.out.below hb2
  have S2 : Hid (St8 w.heap.size w w1.heap.size A1 A2 w2) := ⟨⟨J2.b, J2.sz⟩, ⟨J2.box (by simp), J2.box (by simp), J2.box (by simp)⟩, g3, g4⟩
  clear hb2 J2 J1 g3 g4
  simp only [List.length_cons, List.length_nil] at g1 g2 ⊢
  generalize w1.heap.size = s at *
  have G1 := Lib.hid g1
  have G2 := Lib.hid g2
  clear g1 g2
  -- the reach
  have T := S2.out.al (.cells (litI [1, 1]).toArray 3)
  have S3 := Lib.hid T
  clear T
  go_wp2_with fail
  refine (vec_Reach (some ⟨w2.heap.size, 0, none⟩) (some ⟨s + 1 + 1, 0, none⟩) [1, 1] (R2 (some ⟨s, 0, none⟩) (some ⟨s + 1, 0, none⟩)) 2 2 _ (new_lies w2 [1, 1]) S3.out.r (okR2 _ _) (by simp) (by simp) (by simp) (by simp)).mono ?_
  rintro e w3 ⟨rfl, hb3⟩
  obtain ⟨e1, e2, e3⟩ := lv3 (some ⟨s, 0, none⟩) (some ⟨s + 1, 0, none⟩)
  rw [e1, e2, e3]
  have S4 := Lib.hid (S3.out.below hb3)
  clear e1 e2 e3 hb3 S3 S2
  -- the gap
  obtain ⟨x0, x1⟩ := S4.out.c
  have KG := Lib.hid (fun n => vec_Gap (some ⟨s, 0, none⟩) (some ⟨s + 1, 0, none⟩) [1, 5] [3, 2] 2 2 _ (w3.drewN n) S4.out.l0 S4.out.l1 (by simp) (by simp) (by simp) (by simp))
  rw [lv4.1, lv4.2] at KG
  go_wp2
  go_quiet ((go_at_call 42; exact Calls.quiet_of (KG.out _)))
  have S5 := Lib.hid (S4.out.dr ⟨nq, rfl⟩)
  clear S4 KG x0 x1
  -- the nearest
  obtain ⟨w4, hw4⟩ : ∃ w4, w4 = w3.drewN nq := ⟨_, rfl⟩
  rw [← hw4] at S5 ⊢
  clear hw4
  have S6 := Lib.hid (S5.out.al (.cells (litI [3, 3]).toArray 3))
  clear S5
  go_wp2_with fail
  refine (vec_Near (some ⟨s + 1 + 1, 0, none⟩) (some ⟨w4.heap.size, 0, none⟩) (R2 (some ⟨s, 0, none⟩) (some ⟨s + 1, 0, none⟩)) [3, 3] 2 2 _ _ S6.out.r (new_lies w4 [3, 3]) (okR2 _ _) (by simp) (by simp) (by simp)).mono ?_
  rintro e w5 ⟨rfl, hw5⟩
  obtain ⟨e1, e2, e3⟩ := lv5 (some ⟨s, 0, none⟩) (some ⟨s + 1, 0, none⟩)
  rw [e1, e2, e3]
  have S7 := Lib.hid (S6.out.dr hw5)
  clear e1 e2 e3 hw5 S6
  have KS1 := Lib.hid (fun W g (h : St8 w.heap.size w s A1 A2 W) (hl : Lies W W.heap.size (some ⟨g, 0, none⟩) [1, 2]) => ref_same1 A1 (some ⟨g, 0, none⟩) [1, 2] [1, 2] c1 2 _ W h.lo hl (by simp) (by simp))
  rw [show decide (([1, 2] : List Int) = [1, 2]) = true from by decide] at KS1
  have KS2 := Lib.hid (fun W g (h : St8 w.heap.size w s A1 A2 W) (hl : Lies W W.heap.size (some ⟨g, 0, none⟩) [3, 5]) => ref_same1 A2 (some ⟨g, 0, none⟩) [3, 5] [3, 5] c2 2 _ W h.hi hl (by simp) (by simp))
  rw [show decide (([3, 5] : List Int) = [3, 5]) = true from by decide] at KS2
  have KI1 := Lib.hid (fun W (h : St8 w.heap.size w s A1 A2 W) => vec_is (some ⟨s, 0, none⟩) [1, 5] 2 _ 2 W h.l0 (by simp) (by simp))
  rw [lv6.1] at KI1
  have KI2 := Lib.hid (fun W (h : St8 w.heap.size w s A1 A2 W) => vec_is (some ⟨s, 0, none⟩) [1, 5] 2 _ 3 W h.l0 (by simp) (by simp))
  rw [lv6.2.1] at KI2
  have KP1 := Lib.hid (fun W g (hl : Lies W W.heap.size (some ⟨g, 0, none⟩) [0, 4]) => vec_parts (some ⟨g, 0, none⟩) [0, 4] 2 _ 2 W hl (by simp) (by simp))
  rw [lv6.2.2.1] at KP1
  have KP2 := Lib.hid (fun W g (hl : Lies W W.heap.size (some ⟨g, 0, none⟩) [0]) => vec_parts (some ⟨g, 0, none⟩) [0] 1 _ 1 W hl (by simp) (by simp))
  rw [lv6.2.2.2.1] at KP2
  have KIn := Lib.hid (fun W (h : St8 w.heap.size w s A1 A2 W) => vec_In A1 A2 (some ⟨s, 0, none⟩) [1, 2] [3, 5] [1, 5] c1 c2 2 _ W h.lo h.hi h.l0 (by simp))
  rw [lv6.2.2.2.2.1] at KIn
  have KOp := Lib.hid (fun W (h : St8 w.heap.size w s A1 A2 W) => vec_Open A1 A2 [1, 2] [3, 5] c1 c2 W h.lo h.hi (by simp) (by simp))
  rw [lv6.2.2.2.2.2.1] at KOp
  have KOr := Lib.hid (fun W (h : St8 w.heap.size w s A1 A2 W) => vec_Order (some ⟨s, 0, none⟩) (some ⟨s + 1, 0, none⟩) [1, 5] [3, 2] 2 2 _ W h.l0 h.l1 (by simp) (by simp))
  rw [lv6.2.2.2.2.2.2] at KOr
  simp only [List.length_cons, List.length_nil, Nat.zero_add, Nat.reduceAdd] at KS1 KS2 KI1 KI2 KP1 KP2 KIn KOp KOr
  go_wp2
  simp only [List.append_eq, List.cons_append, List.nil_append]
  refine wp_region_acts (LJ w.heap.size w s A1 A2 c1 c2) [[],[0],[1],[2],[3,2],[2,4],[5,2],[6],[6],[7,8,6,6],[6,9],[10,9],[11],[11],[12,13,11,11],[11,14],[15,14],[16],[17,16],[16,18],[19,16],[20],[21,20],[20,22],[23,20],[24],[25,24],[24,26],[27,24],[28],[29,28],[28,30],[31,28],[32],[33,32],[32,34],[35,32],[36],[37,36],[36,38],[39,36],[40],[41,40],[40,42],[43,40],[44],[45,44],[44,46],[47,44],[48],[49,48],[48,50],[51,48],[52],[53,52],[54,52],[55,52,52],[52,56],[57,56],[58],[59,58],[60,58],[61,58,58],[62,58],[58,63],[64,62],[65],[66,65,65],[65,67],[68,67],[69],[70,69,69],[71,69],[69,72],[73,71],[74],[74],[74],[77,74],[78,74],[75,76,79,74,74],[74,80],[81,80],[82],[82],[83,84,82,82],[85,82],[86,82],[82,87],[88,85],[89],[90,89],[91,89],[89],[93,89],[94,89],[92,95,89,89],[96,89],[89,97],[98,96,0,1,2,3,4,5,6,7,8,9,10,11,12,13,14,15,16,17,18,19,20,21,22,23,24,25,26,27,28,29,30,31,32,33,34,35,36,37,38,39,40,41,42,43,44,45,46,47,48,49,50,51,52,53,54,55,56,57,58,59,60,61,62,63,64,65,66,67,68,69,70,71,72,73,74,75,76,77,78,79,80,81,82,83,84,85,86,87,88,89,90,91,92,93,94,95,96,97,98]]
    (by kernel_rfl) (by kernel_rfl) (by kernel_rfl) (by kernel_rfl) ?_ ?_ ?_ ?_
  · exact fun f g a w => LJ.alike f g a w
  · refine ⟨rfl, rfl, fun t u hu => ?_, (fun i u h => by cases h), (fun h => by cases h), S7.out.dr ⟨1, rfl⟩, (fun h => by cases h), (fun h => by cases h), (fun h => by cases h), (fun h => by cases h), (fun h => by cases h)⟩
    have ht := lvB_lt hu
    unfold lvB at hu
    split at hu <;> first | (cases hu; rfl) | cases hu
  · clear S7
    refine ⟨?_, ?_, ?_, ?_, ?_, ?_, ?_, ?_, ?_, ?_, ?_, ?_, ?_, ?_, ?_, ?_, ?_, ?_, ?_, ?_, ?_, ?_, ?_, ?_, ?_, ?_, ?_, ?_, ?_, ?_, ?_, ?_, ?_, ?_, ?_, ?_, ?_, ?_, ?_, ?_, ?_, ?_, ?_, ?_, ?_, ?_, ?_, ?_, ?_, ?_, ?_, ?_, ?_, ?_, ?_, ?_, ?_, ?_, ?_, ?_, ?_, ?_, ?_, ?_, ?_, ?_, ?_, ?_, ?_, ?_, ?_, ?_, ?_, ?_, ?_, ?_, ?_, ?_, ?_, ?_, ?_, ?_, ?_, ?_, ?_, ?_, ?_, ?_, ?_, ?_, ?_, ?_, ?_, ?_, ?_, ?_, ?_, ?_, ?_, ?_, trivial⟩
    -- 0 move
    · intro f a w1 hf hp hj K hK
      refine ⟨wanted_none rfl, ?_⟩
      have t1 := hj.base 1 _ rfl
      have HJ := Lib.hid hj
      have HF := Lib.hid hf
      clear hp hj hf
      go_simp
      exact hK _ _ (HJ.out.put (Below.refl _ _) 0 (by decide) _ (fun u hu => by cases hu; rfl) (fun h => absurd h (by decide)) (fun h => absurd h (by decide)) (fun h => absurd h (by decide)) (fun h => absurd h (by decide)) (fun h => absurd h (by decide)))
    -- 1 binOp
    · intro f a w1 hf hp hj K hK
      refine ⟨wanted_none rfl, ?_⟩
      have t54 : a.tmps.getD 54 undef = .int .i64 3 := hj.get 0 (hp 0 (by decide)) rfl
      have HJ := Lib.hid hj
      have HF := Lib.hid hf
      clear hp hj hf
      go_simp
      exact hK _ _ (HJ.out.put (Below.refl _ _) 1 (by decide) _ (fun u hu => by cases hu; rfl) (fun h => absurd h (by decide)) (fun h => absurd h (by decide)) (fun h => absurd h (by decide)) (fun h => absurd h (by decide)) (fun h => absurd h (by decide)))
    -- 2 move
    · intro f a w1 hf hp hj K hK
      refine ⟨wanted_none rfl, ?_⟩
      have t55 : a.tmps.getD 55 undef = .bool true := hj.get 1 (hp 1 (by decide)) rfl
      have HJ := Lib.hid hj
      have HF := Lib.hid hf
      clear hp hj hf
      go_simp
      exact hK _ _ (HJ.out.put (Below.refl _ _) 2 (by decide) _ (fun u hu => by cases hu; rfl) (fun h => absurd h (by decide)) (fun h => absurd h (by decide)) (fun h => absurd h (by decide)) (fun h => absurd h (by decide)) (fun h => absurd h (by decide)))
    -- 3 move
    · intro f a w1 hf hp hj K hK
      refine ⟨wanted_of (j := 2) (t := 56) (b := true) rfl rfl (hj.val 2 _ (hp 2 (by decide)) rfl), ?_⟩
      have t2 := hj.base 2 _ rfl
      have HJ := Lib.hid hj
      have HF := Lib.hid hf
      clear hp hj hf
      go_simp
      exact hK _ _ (HJ.out.put (Below.refl _ _) 3 (by decide) _ (fun u hu => by cases hu; rfl) (fun h => absurd h (by decide)) (fun h => absurd h (by decide)) (fun h => absurd h (by decide)) (fun h => absurd h (by decide)) (fun h => absurd h (by decide)))
    -- 4 binOp
    · intro f a w1 hf hp hj K hK
      refine ⟨wanted_of (j := 2) (t := 56) (b := true) rfl rfl (hj.val 2 _ (hp 2 (by decide)) rfl), ?_⟩
      have t57 : a.tmps.getD 57 undef = .int .i64 0 := hj.get 3 (hp 3 (by decide)) rfl
      have HJ := Lib.hid hj
      have HF := Lib.hid hf
      clear hp hj hf
      go_simp
      exact hK _ _ (HJ.out.put (Below.refl _ _) 4 (by decide) _ (fun u hu => by cases hu; rfl) (fun h => absurd h (by decide)) (fun h => absurd h (by decide)) (fun h => absurd h (by decide)) (fun h => absurd h (by decide)) (fun h => absurd h (by decide)))
    -- 5 pick
    · intro f a w1 hf hp hj K hK
      refine ⟨wanted_none rfl, ?_⟩
      have t56 : a.tmps.getD 56 undef = .bool true := hj.get 2 (hp 2 (by decide)) rfl
      have t58 : a.tmps.getD 58 undef = .bool true := hj.get 4 (hp 4 (by decide)) rfl
      have HJ := Lib.hid hj
      have HF := Lib.hid hf
      clear hp hj hf
      go_simp
      exact hK _ _ (HJ.out.put (Below.refl _ _) 5 (by decide) _ (fun u hu => by cases hu; rfl) (fun h => absurd h (by decide)) (fun h => absurd h (by decide)) (fun h => absurd h (by decide)) (fun h => absurd h (by decide)) (fun h => absurd h (by decide)))
    -- 6 move
    · intro f a w1 hf hp hj K hK
      refine ⟨wanted_none rfl, ?_⟩
      have t59 : a.tmps.getD 59 undef = .bool true := hj.get 5 (hp 5 (by decide)) rfl
      have HJ := Lib.hid hj
      have HF := Lib.hid hf
      clear hp hj hf
      go_simp
      exact hK _ _ (HJ.out.put (Below.refl _ _) 6 (by decide) _ (fun u hu => by cases hu; rfl) (fun h => absurd h (by decide)) (fun h => absurd h (by decide)) (fun h => absurd h (by decide)) (fun h => absurd h (by decide)) (fun h => absurd h (by decide)))
    -- 7 move
    · intro f a w1 hf hp hj K hK
      refine ⟨wanted_of (j := 6) (t := 60) (b := true) rfl rfl (hj.val 6 _ (hp 6 (by decide)) rfl), ?_⟩
      have t4 := hj.base 4 _ rfl
      have HJ := Lib.hid hj
      have HF := Lib.hid hf
      clear hp hj hf
      go_simp
      exact hK _ _ (HJ.out.put (Below.refl _ _) 7 (by decide) _ (fun u hu => by cases hu; rfl) (fun h => absurd h (by decide)) (fun h => absurd h (by decide)) (fun h => absurd h (by decide)) (fun h => absurd h (by decide)) (fun h => absurd h (by decide)))
    -- 8 buildSlice
    · intro f a w1 hf hp hj K hK
      refine ⟨wanted_of (j := 6) (t := 60) (b := true) rfl rfl (hj.val 6 _ (hp 6 (by decide)) rfl), ?_⟩
      have HJ := Lib.hid hj
      have HF := Lib.hid hf
      clear hp hj hf
      go_simp
      exact hK _ _ (HJ.out.put ((Below.refl _ _).alloc (Nat.le_refl _) _) 8 (by decide) _ (fun u hu => by cases hu) (fun _ => ⟨w1.heap.size, rfl, new_lies w1 [1, 2]⟩) (fun h => absurd h (by decide)) (fun h => absurd h (by decide)) (fun h => absurd h (by decide)) (fun h => absurd h (by decide)))
    -- 9 call
    · intro f a w1 hf hp hj K hK
      refine ⟨wanted_of (j := 6) (t := 60) (b := true) rfl rfl (hj.val 6 _ (hp 6 (by decide)) rfl), ?_⟩
      have t61 : a.tmps.getD 61 undef = .slice A1 2 c1 := hj.get 7 (hp 7 (by decide)) rfl
      obtain ⟨g, t62, hl⟩ := hj.b8 (hp 8 (by decide))
      simp only [List.length_cons, List.length_nil, Nat.zero_add, Nat.reduceAdd] at t62
      have HJ := Lib.hid hj
      have HF := Lib.hid hf
      clear hp hj hf
      go_wp2_with fail
      refine (KS1.out _ g HJ.out.st hl).mono ?_
      rintro e w2 ⟨rfl, hw⟩
      go_simp
      exact hK _ _ (HJ.out.put (qd_below hw) 9 (by decide) _ (fun u hu => by cases hu; rfl) (fun h => absurd h (by decide)) (fun h => absurd h (by decide)) (fun h => absurd h (by decide)) (fun h => absurd h (by decide)) (fun h => absurd h (by decide)))
    -- 10 pick
    · intro f a w1 hf hp hj K hK
      refine ⟨wanted_none rfl, ?_⟩
      have t60 : a.tmps.getD 60 undef = .bool true := hj.get 6 (hp 6 (by decide)) rfl
      have t63 : a.tmps.getD 63 undef = .bool true := hj.get 9 (hp 9 (by decide)) rfl
      have HJ := Lib.hid hj
      have HF := Lib.hid hf
      clear hp hj hf
      go_simp
      exact hK _ _ (HJ.out.put (Below.refl _ _) 10 (by decide) _ (fun u hu => by cases hu; rfl) (fun h => absurd h (by decide)) (fun h => absurd h (by decide)) (fun h => absurd h (by decide)) (fun h => absurd h (by decide)) (fun h => absurd h (by decide)))
    -- 11 move
    · intro f a w1 hf hp hj K hK
      refine ⟨wanted_none rfl, ?_⟩
      have t64 : a.tmps.getD 64 undef = .bool true := hj.get 10 (hp 10 (by decide)) rfl
      have HJ := Lib.hid hj
      have HF := Lib.hid hf
      clear hp hj hf
      go_simp
      exact hK _ _ (HJ.out.put (Below.refl _ _) 11 (by decide) _ (fun u hu => by cases hu; rfl) (fun h => absurd h (by decide)) (fun h => absurd h (by decide)) (fun h => absurd h (by decide)) (fun h => absurd h (by decide)) (fun h => absurd h (by decide)))
    -- 12 move
    · intro f a w1 hf hp hj K hK
      refine ⟨wanted_of (j := 11) (t := 65) (b := true) rfl rfl (hj.val 11 _ (hp 11 (by decide)) rfl), ?_⟩
      have t5 := hj.base 5 _ rfl
      have HJ := Lib.hid hj
      have HF := Lib.hid hf
      clear hp hj hf
      go_simp
      exact hK _ _ (HJ.out.put (Below.refl _ _) 12 (by decide) _ (fun u hu => by cases hu; rfl) (fun h => absurd h (by decide)) (fun h => absurd h (by decide)) (fun h => absurd h (by decide)) (fun h => absurd h (by decide)) (fun h => absurd h (by decide)))
    -- 13 buildSlice
    · intro f a w1 hf hp hj K hK
      refine ⟨wanted_of (j := 11) (t := 65) (b := true) rfl rfl (hj.val 11 _ (hp 11 (by decide)) rfl), ?_⟩
      have HJ := Lib.hid hj
      have HF := Lib.hid hf
      clear hp hj hf
      go_simp
      exact hK _ _ (HJ.out.put ((Below.refl _ _).alloc (Nat.le_refl _) _) 13 (by decide) _ (fun u hu => by cases hu) (fun h => absurd h (by decide)) (fun _ => ⟨w1.heap.size, rfl, new_lies w1 [3, 5]⟩) (fun h => absurd h (by decide)) (fun h => absurd h (by decide)) (fun h => absurd h (by decide)))
    -- 14 call
    · intro f a w1 hf hp hj K hK
      refine ⟨wanted_of (j := 11) (t := 65) (b := true) rfl rfl (hj.val 11 _ (hp 11 (by decide)) rfl), ?_⟩
      have t66 : a.tmps.getD 66 undef = .slice A2 2 c2 := hj.get 12 (hp 12 (by decide)) rfl
      obtain ⟨g, t67, hl⟩ := hj.b13 (hp 13 (by decide))
      simp only [List.length_cons, List.length_nil, Nat.zero_add, Nat.reduceAdd] at t67
      have HJ := Lib.hid hj
      have HF := Lib.hid hf
      clear hp hj hf
      go_wp2_with fail
      refine (KS2.out _ g HJ.out.st hl).mono ?_
      rintro e w2 ⟨rfl, hw⟩
      go_simp
      exact hK _ _ (HJ.out.put (qd_below hw) 14 (by decide) _ (fun u hu => by cases hu; rfl) (fun h => absurd h (by decide)) (fun h => absurd h (by decide)) (fun h => absurd h (by decide)) (fun h => absurd h (by decide)) (fun h => absurd h (by decide)))
    -- 15 pick
    · intro f a w1 hf hp hj K hK
      refine ⟨wanted_none rfl, ?_⟩
      have t65 : a.tmps.getD 65 undef = .bool true := hj.get 11 (hp 11 (by decide)) rfl
      have t68 : a.tmps.getD 68 undef = .bool true := hj.get 14 (hp 14 (by decide)) rfl
      have HJ := Lib.hid hj
      have HF := Lib.hid hf
      clear hp hj hf
      go_simp
      exact hK _ _ (HJ.out.put (Below.refl _ _) 15 (by decide) _ (fun u hu => by cases hu; rfl) (fun h => absurd h (by decide)) (fun h => absurd h (by decide)) (fun h => absurd h (by decide)) (fun h => absurd h (by decide)) (fun h => absurd h (by decide)))
    -- 16 move
    · intro f a w1 hf hp hj K hK
      refine ⟨wanted_none rfl, ?_⟩
      have t69 : a.tmps.getD 69 undef = .bool true := hj.get 15 (hp 15 (by decide)) rfl
      have HJ := Lib.hid hj
      have HF := Lib.hid hf
      clear hp hj hf
      go_simp
      exact hK _ _ (HJ.out.put (Below.refl _ _) 16 (by decide) _ (fun u hu => by cases hu; rfl) (fun h => absurd h (by decide)) (fun h => absurd h (by decide)) (fun h => absurd h (by decide)) (fun h => absurd h (by decide)) (fun h => absurd h (by decide)))
    -- 17 move
    · intro f a w1 hf hp hj K hK
      refine ⟨wanted_of (j := 16) (t := 70) (b := true) rfl rfl (hj.val 16 _ (hp 16 (by decide)) rfl), ?_⟩
      have t6 := hj.base 6 _ rfl
      have HJ := Lib.hid hj
      have HF := Lib.hid hf
      clear hp hj hf
      go_simp
      exact hK _ _ (HJ.out.put (Below.refl _ _) 17 (by decide) _ (fun u hu => by cases hu; rfl) (fun h => absurd h (by decide)) (fun h => absurd h (by decide)) (fun h => absurd h (by decide)) (fun h => absurd h (by decide)) (fun h => absurd h (by decide)))
    -- 18 binOp
    · intro f a w1 hf hp hj K hK
      refine ⟨wanted_of (j := 16) (t := 70) (b := true) rfl rfl (hj.val 16 _ (hp 16 (by decide)) rfl), ?_⟩
      have t71 : a.tmps.getD 71 undef = .int .i64 0 := hj.get 17 (hp 17 (by decide)) rfl
      have HJ := Lib.hid hj
      have HF := Lib.hid hf
      clear hp hj hf
      go_simp
      exact hK _ _ (HJ.out.put (Below.refl _ _) 18 (by decide) _ (fun u hu => by cases hu; rfl) (fun h => absurd h (by decide)) (fun h => absurd h (by decide)) (fun h => absurd h (by decide)) (fun h => absurd h (by decide)) (fun h => absurd h (by decide)))
    -- 19 pick
    · intro f a w1 hf hp hj K hK
      refine ⟨wanted_none rfl, ?_⟩
      have t70 : a.tmps.getD 70 undef = .bool true := hj.get 16 (hp 16 (by decide)) rfl
      have t72 : a.tmps.getD 72 undef = .bool true := hj.get 18 (hp 18 (by decide)) rfl
      have HJ := Lib.hid hj
      have HF := Lib.hid hf
      clear hp hj hf
      go_simp
      exact hK _ _ (HJ.out.put (Below.refl _ _) 19 (by decide) _ (fun u hu => by cases hu; rfl) (fun h => absurd h (by decide)) (fun h => absurd h (by decide)) (fun h => absurd h (by decide)) (fun h => absurd h (by decide)) (fun h => absurd h (by decide)))
    -- 20 move
    · intro f a w1 hf hp hj K hK
      refine ⟨wanted_none rfl, ?_⟩
      have t73 : a.tmps.getD 73 undef = .bool true := hj.get 19 (hp 19 (by decide)) rfl
      have HJ := Lib.hid hj
      have HF := Lib.hid hf
      clear hp hj hf
      go_simp
      exact hK _ _ (HJ.out.put (Below.refl _ _) 20 (by decide) _ (fun u hu => by cases hu; rfl) (fun h => absurd h (by decide)) (fun h => absurd h (by decide)) (fun h => absurd h (by decide)) (fun h => absurd h (by decide)) (fun h => absurd h (by decide)))
    -- 21 move
    · intro f a w1 hf hp hj K hK
      refine ⟨wanted_of (j := 20) (t := 74) (b := true) rfl rfl (hj.val 20 _ (hp 20 (by decide)) rfl), ?_⟩
      have t7 := hj.base 7 _ rfl
      have HJ := Lib.hid hj
      have HF := Lib.hid hf
      clear hp hj hf
      go_simp
      exact hK _ _ (HJ.out.put (Below.refl _ _) 21 (by decide) _ (fun u hu => by cases hu; rfl) (fun h => absurd h (by decide)) (fun h => absurd h (by decide)) (fun h => absurd h (by decide)) (fun h => absurd h (by decide)) (fun h => absurd h (by decide)))
    -- 22 binOp
    · intro f a w1 hf hp hj K hK
      refine ⟨wanted_of (j := 20) (t := 74) (b := true) rfl rfl (hj.val 20 _ (hp 20 (by decide)) rfl), ?_⟩
      have t75 : a.tmps.getD 75 undef = .int .i64 5 := hj.get 21 (hp 21 (by decide)) rfl
      have HJ := Lib.hid hj
      have HF := Lib.hid hf
      clear hp hj hf
      go_simp
      exact hK _ _ (HJ.out.put (Below.refl _ _) 22 (by decide) _ (fun u hu => by cases hu; rfl) (fun h => absurd h (by decide)) (fun h => absurd h (by decide)) (fun h => absurd h (by decide)) (fun h => absurd h (by decide)) (fun h => absurd h (by decide)))
    -- 23 pick
    · intro f a w1 hf hp hj K hK
      refine ⟨wanted_none rfl, ?_⟩
      have t74 : a.tmps.getD 74 undef = .bool true := hj.get 20 (hp 20 (by decide)) rfl
      have t76 : a.tmps.getD 76 undef = .bool true := hj.get 22 (hp 22 (by decide)) rfl
      have HJ := Lib.hid hj
      have HF := Lib.hid hf
      clear hp hj hf
      go_simp
      exact hK _ _ (HJ.out.put (Below.refl _ _) 23 (by decide) _ (fun u hu => by cases hu; rfl) (fun h => absurd h (by decide)) (fun h => absurd h (by decide)) (fun h => absurd h (by decide)) (fun h => absurd h (by decide)) (fun h => absurd h (by decide)))
    -- 24 move
    · intro f a w1 hf hp hj K hK
      refine ⟨wanted_none rfl, ?_⟩
      have t77 : a.tmps.getD 77 undef = .bool true := hj.get 23 (hp 23 (by decide)) rfl
      have HJ := Lib.hid hj
      have HF := Lib.hid hf
      clear hp hj hf
      go_simp
      exact hK _ _ (HJ.out.put (Below.refl _ _) 24 (by decide) _ (fun u hu => by cases hu; rfl) (fun h => absurd h (by decide)) (fun h => absurd h (by decide)) (fun h => absurd h (by decide)) (fun h => absurd h (by decide)) (fun h => absurd h (by decide)))
    -- 25 move
    · intro f a w1 hf hp hj K hK
      refine ⟨wanted_of (j := 24) (t := 78) (b := true) rfl rfl (hj.val 24 _ (hp 24 (by decide)) rfl), ?_⟩
      have t8 := hj.base 8 _ rfl
      have HJ := Lib.hid hj
      have HF := Lib.hid hf
      clear hp hj hf
      go_simp
      exact hK _ _ (HJ.out.put (Below.refl _ _) 25 (by decide) _ (fun u hu => by cases hu; rfl) (fun h => absurd h (by decide)) (fun h => absurd h (by decide)) (fun h => absurd h (by decide)) (fun h => absurd h (by decide)) (fun h => absurd h (by decide)))
    -- 26 binOp
    · intro f a w1 hf hp hj K hK
      refine ⟨wanted_of (j := 24) (t := 78) (b := true) rfl rfl (hj.val 24 _ (hp 24 (by decide)) rfl), ?_⟩
      have t79 : a.tmps.getD 79 undef = .int .i64 6 := hj.get 25 (hp 25 (by decide)) rfl
      have HJ := Lib.hid hj
      have HF := Lib.hid hf
      clear hp hj hf
      go_simp
      exact hK _ _ (HJ.out.put (Below.refl _ _) 26 (by decide) _ (fun u hu => by cases hu; rfl) (fun h => absurd h (by decide)) (fun h => absurd h (by decide)) (fun h => absurd h (by decide)) (fun h => absurd h (by decide)) (fun h => absurd h (by decide)))
    -- 27 pick
    · intro f a w1 hf hp hj K hK
      refine ⟨wanted_none rfl, ?_⟩
      have t78 : a.tmps.getD 78 undef = .bool true := hj.get 24 (hp 24 (by decide)) rfl
      have t80 : a.tmps.getD 80 undef = .bool true := hj.get 26 (hp 26 (by decide)) rfl
      have HJ := Lib.hid hj
      have HF := Lib.hid hf
      clear hp hj hf
      go_simp
      exact hK _ _ (HJ.out.put (Below.refl _ _) 27 (by decide) _ (fun u hu => by cases hu; rfl) (fun h => absurd h (by decide)) (fun h => absurd h (by decide)) (fun h => absurd h (by decide)) (fun h => absurd h (by decide)) (fun h => absurd h (by decide)))
    -- 28 move
    · intro f a w1 hf hp hj K hK
      refine ⟨wanted_none rfl, ?_⟩
      have t81 : a.tmps.getD 81 undef = .bool true := hj.get 27 (hp 27 (by decide)) rfl
      have HJ := Lib.hid hj
      have HF := Lib.hid hf
      clear hp hj hf
      go_simp
      exact hK _ _ (HJ.out.put (Below.refl _ _) 28 (by decide) _ (fun u hu => by cases hu; rfl) (fun h => absurd h (by decide)) (fun h => absurd h (by decide)) (fun h => absurd h (by decide)) (fun h => absurd h (by decide)) (fun h => absurd h (by decide)))
    -- 29 move
    · intro f a w1 hf hp hj K hK
      refine ⟨wanted_of (j := 28) (t := 82) (b := true) rfl rfl (hj.val 28 _ (hp 28 (by decide)) rfl), ?_⟩
      have t9 := hj.base 9 _ rfl
      have HJ := Lib.hid hj
      have HF := Lib.hid hf
      clear hp hj hf
      go_simp
      exact hK _ _ (HJ.out.put (Below.refl _ _) 29 (by decide) _ (fun u hu => by cases hu; rfl) (fun h => absurd h (by decide)) (fun h => absurd h (by decide)) (fun h => absurd h (by decide)) (fun h => absurd h (by decide)) (fun h => absurd h (by decide)))
    -- 30 binOp
    · intro f a w1 hf hp hj K hK
      refine ⟨wanted_of (j := 28) (t := 82) (b := true) rfl rfl (hj.val 28 _ (hp 28 (by decide)) rfl), ?_⟩
      have t83 : a.tmps.getD 83 undef = .int .i64 0 := hj.get 29 (hp 29 (by decide)) rfl
      have HJ := Lib.hid hj
      have HF := Lib.hid hf
      clear hp hj hf
      go_simp
      exact hK _ _ (HJ.out.put (Below.refl _ _) 30 (by decide) _ (fun u hu => by cases hu; rfl) (fun h => absurd h (by decide)) (fun h => absurd h (by decide)) (fun h => absurd h (by decide)) (fun h => absurd h (by decide)) (fun h => absurd h (by decide)))
    -- 31 pick
    · intro f a w1 hf hp hj K hK
      refine ⟨wanted_none rfl, ?_⟩
      have t82 : a.tmps.getD 82 undef = .bool true := hj.get 28 (hp 28 (by decide)) rfl
      have t84 : a.tmps.getD 84 undef = .bool true := hj.get 30 (hp 30 (by decide)) rfl
      have HJ := Lib.hid hj
      have HF := Lib.hid hf
      clear hp hj hf
      go_simp
      exact hK _ _ (HJ.out.put (Below.refl _ _) 31 (by decide) _ (fun u hu => by cases hu; rfl) (fun h => absurd h (by decide)) (fun h => absurd h (by decide)) (fun h => absurd h (by decide)) (fun h => absurd h (by decide)) (fun h => absurd h (by decide)))
    -- 32 move
    · intro f a w1 hf hp hj K hK
      refine ⟨wanted_none rfl, ?_⟩
      have t85 : a.tmps.getD 85 undef = .bool true := hj.get 31 (hp 31 (by decide)) rfl
      have HJ := Lib.hid hj
      have HF := Lib.hid hf
      clear hp hj hf
      go_simp
      exact hK _ _ (HJ.out.put (Below.refl _ _) 32 (by decide) _ (fun u hu => by cases hu; rfl) (fun h => absurd h (by decide)) (fun h => absurd h (by decide)) (fun h => absurd h (by decide)) (fun h => absurd h (by decide)) (fun h => absurd h (by decide)))
    -- 33 move
    · intro f a w1 hf hp hj K hK
      refine ⟨wanted_of (j := 32) (t := 86) (b := true) rfl rfl (hj.val 32 _ (hp 32 (by decide)) rfl), ?_⟩
      have t10 := hj.base 10 _ rfl
      have HJ := Lib.hid hj
      have HF := Lib.hid hf
      clear hp hj hf
      go_simp
      exact hK _ _ (HJ.out.put (Below.refl _ _) 33 (by decide) _ (fun u hu => by cases hu; rfl) (fun h => absurd h (by decide)) (fun h => absurd h (by decide)) (fun h => absurd h (by decide)) (fun h => absurd h (by decide)) (fun h => absurd h (by decide)))
    -- 34 binOp
    · intro f a w1 hf hp hj K hK
      refine ⟨wanted_of (j := 32) (t := 86) (b := true) rfl rfl (hj.val 32 _ (hp 32 (by decide)) rfl), ?_⟩
      have t87 : a.tmps.getD 87 undef = .int .i64 5 := hj.get 33 (hp 33 (by decide)) rfl
      have HJ := Lib.hid hj
      have HF := Lib.hid hf
      clear hp hj hf
      go_simp
      exact hK _ _ (HJ.out.put (Below.refl _ _) 34 (by decide) _ (fun u hu => by cases hu; rfl) (fun h => absurd h (by decide)) (fun h => absurd h (by decide)) (fun h => absurd h (by decide)) (fun h => absurd h (by decide)) (fun h => absurd h (by decide)))
    -- 35 pick
    · intro f a w1 hf hp hj K hK
      refine ⟨wanted_none rfl, ?_⟩
      have t86 : a.tmps.getD 86 undef = .bool true := hj.get 32 (hp 32 (by decide)) rfl
      have t88 : a.tmps.getD 88 undef = .bool true := hj.get 34 (hp 34 (by decide)) rfl
      have HJ := Lib.hid hj
      have HF := Lib.hid hf
      clear hp hj hf
      go_simp
      exact hK _ _ (HJ.out.put (Below.refl _ _) 35 (by decide) _ (fun u hu => by cases hu; rfl) (fun h => absurd h (by decide)) (fun h => absurd h (by decide)) (fun h => absurd h (by decide)) (fun h => absurd h (by decide)) (fun h => absurd h (by decide)))
    -- 36 move
    · intro f a w1 hf hp hj K hK
      refine ⟨wanted_none rfl, ?_⟩
      have t89 : a.tmps.getD 89 undef = .bool true := hj.get 35 (hp 35 (by decide)) rfl
      have HJ := Lib.hid hj
      have HF := Lib.hid hf
      clear hp hj hf
      go_simp
      exact hK _ _ (HJ.out.put (Below.refl _ _) 36 (by decide) _ (fun u hu => by cases hu; rfl) (fun h => absurd h (by decide)) (fun h => absurd h (by decide)) (fun h => absurd h (by decide)) (fun h => absurd h (by decide)) (fun h => absurd h (by decide)))
    -- 37 move
    · intro f a w1 hf hp hj K hK
      refine ⟨wanted_of (j := 36) (t := 90) (b := true) rfl rfl (hj.val 36 _ (hp 36 (by decide)) rfl), ?_⟩
      have t11 := hj.base 11 _ rfl
      have HJ := Lib.hid hj
      have HF := Lib.hid hf
      clear hp hj hf
      go_simp
      exact hK _ _ (HJ.out.put (Below.refl _ _) 37 (by decide) _ (fun u hu => by cases hu; rfl) (fun h => absurd h (by decide)) (fun h => absurd h (by decide)) (fun h => absurd h (by decide)) (fun h => absurd h (by decide)) (fun h => absurd h (by decide)))
    -- 38 binOp
    · intro f a w1 hf hp hj K hK
      refine ⟨wanted_of (j := 36) (t := 90) (b := true) rfl rfl (hj.val 36 _ (hp 36 (by decide)) rfl), ?_⟩
      have t91 : a.tmps.getD 91 undef = .int .i64 0 := hj.get 37 (hp 37 (by decide)) rfl
      have HJ := Lib.hid hj
      have HF := Lib.hid hf
      clear hp hj hf
      go_simp
      exact hK _ _ (HJ.out.put (Below.refl _ _) 38 (by decide) _ (fun u hu => by cases hu; rfl) (fun h => absurd h (by decide)) (fun h => absurd h (by decide)) (fun h => absurd h (by decide)) (fun h => absurd h (by decide)) (fun h => absurd h (by decide)))
    -- 39 pick
    · intro f a w1 hf hp hj K hK
      refine ⟨wanted_none rfl, ?_⟩
      have t90 : a.tmps.getD 90 undef = .bool true := hj.get 36 (hp 36 (by decide)) rfl
      have t92 : a.tmps.getD 92 undef = .bool true := hj.get 38 (hp 38 (by decide)) rfl
      have HJ := Lib.hid hj
      have HF := Lib.hid hf
      clear hp hj hf
      go_simp
      exact hK _ _ (HJ.out.put (Below.refl _ _) 39 (by decide) _ (fun u hu => by cases hu; rfl) (fun h => absurd h (by decide)) (fun h => absurd h (by decide)) (fun h => absurd h (by decide)) (fun h => absurd h (by decide)) (fun h => absurd h (by decide)))
    -- 40 move
    · intro f a w1 hf hp hj K hK
      refine ⟨wanted_none rfl, ?_⟩
      have t93 : a.tmps.getD 93 undef = .bool true := hj.get 39 (hp 39 (by decide)) rfl
      have HJ := Lib.hid hj
      have HF := Lib.hid hf
      clear hp hj hf
      go_simp
      exact hK _ _ (HJ.out.put (Below.refl _ _) 40 (by decide) _ (fun u hu => by cases hu; rfl) (fun h => absurd h (by decide)) (fun h => absurd h (by decide)) (fun h => absurd h (by decide)) (fun h => absurd h (by decide)) (fun h => absurd h (by decide)))
    -- 41 move
    · intro f a w1 hf hp hj K hK
      refine ⟨wanted_of (j := 40) (t := 94) (b := true) rfl rfl (hj.val 40 _ (hp 40 (by decide)) rfl), ?_⟩
      have t12 := hj.base 12 _ rfl
      have HJ := Lib.hid hj
      have HF := Lib.hid hf
      clear hp hj hf
      go_simp
      exact hK _ _ (HJ.out.put (Below.refl _ _) 41 (by decide) _ (fun u hu => by cases hu; rfl) (fun h => absurd h (by decide)) (fun h => absurd h (by decide)) (fun h => absurd h (by decide)) (fun h => absurd h (by decide)) (fun h => absurd h (by decide)))
    -- 42 binOp
    · intro f a w1 hf hp hj K hK
      refine ⟨wanted_of (j := 40) (t := 94) (b := true) rfl rfl (hj.val 40 _ (hp 40 (by decide)) rfl), ?_⟩
      have t95 : a.tmps.getD 95 undef = .int .i64 1 := hj.get 41 (hp 41 (by decide)) rfl
      have HJ := Lib.hid hj
      have HF := Lib.hid hf
      clear hp hj hf
      go_simp
      exact hK _ _ (HJ.out.put (Below.refl _ _) 42 (by decide) _ (fun u hu => by cases hu; rfl) (fun h => absurd h (by decide)) (fun h => absurd h (by decide)) (fun h => absurd h (by decide)) (fun h => absurd h (by decide)) (fun h => absurd h (by decide)))
    -- 43 pick
    · intro f a w1 hf hp hj K hK
      refine ⟨wanted_none rfl, ?_⟩
      have t94 : a.tmps.getD 94 undef = .bool true := hj.get 40 (hp 40 (by decide)) rfl
      have t96 : a.tmps.getD 96 undef = .bool true := hj.get 42 (hp 42 (by decide)) rfl
      have HJ := Lib.hid hj
      have HF := Lib.hid hf
      clear hp hj hf
      go_simp
      exact hK _ _ (HJ.out.put (Below.refl _ _) 43 (by decide) _ (fun u hu => by cases hu; rfl) (fun h => absurd h (by decide)) (fun h => absurd h (by decide)) (fun h => absurd h (by decide)) (fun h => absurd h (by decide)) (fun h => absurd h (by decide)))
    -- 44 move
    · intro f a w1 hf hp hj K hK
      refine ⟨wanted_none rfl, ?_⟩
      have t97 : a.tmps.getD 97 undef = .bool true := hj.get 43 (hp 43 (by decide)) rfl
      have HJ := Lib.hid hj
      have HF := Lib.hid hf
      clear hp hj hf
      go_simp
      exact hK _ _ (HJ.out.put (Below.refl _ _) 44 (by decide) _ (fun u hu => by cases hu; rfl) (fun h => absurd h (by decide)) (fun h => absurd h (by decide)) (fun h => absurd h (by decide)) (fun h => absurd h (by decide)) (fun h => absurd h (by decide)))
    -- 45 move
    · intro f a w1 hf hp hj K hK
      refine ⟨wanted_of (j := 44) (t := 98) (b := true) rfl rfl (hj.val 44 _ (hp 44 (by decide)) rfl), ?_⟩
      have t13 := hj.base 13 _ rfl
      have HJ := Lib.hid hj
      have HF := Lib.hid hf
      clear hp hj hf
      go_simp
      exact hK _ _ (HJ.out.put (Below.refl _ _) 45 (by decide) _ (fun u hu => by cases hu; rfl) (fun h => absurd h (by decide)) (fun h => absurd h (by decide)) (fun h => absurd h (by decide)) (fun h => absurd h (by decide)) (fun h => absurd h (by decide)))
    -- 46 binOp
    · intro f a w1 hf hp hj K hK
      refine ⟨wanted_of (j := 44) (t := 98) (b := true) rfl rfl (hj.val 44 _ (hp 44 (by decide)) rfl), ?_⟩
      have t99 : a.tmps.getD 99 undef = .int .i64 1 := hj.get 45 (hp 45 (by decide)) rfl
      have HJ := Lib.hid hj
      have HF := Lib.hid hf
      clear hp hj hf
      go_simp
      exact hK _ _ (HJ.out.put (Below.refl _ _) 46 (by decide) _ (fun u hu => by cases hu; rfl) (fun h => absurd h (by decide)) (fun h => absurd h (by decide)) (fun h => absurd h (by decide)) (fun h => absurd h (by decide)) (fun h => absurd h (by decide)))
    -- 47 pick
    · intro f a w1 hf hp hj K hK
      refine ⟨wanted_none rfl, ?_⟩
      have t98 : a.tmps.getD 98 undef = .bool true := hj.get 44 (hp 44 (by decide)) rfl
      have t100 : a.tmps.getD 100 undef = .bool true := hj.get 46 (hp 46 (by decide)) rfl
      have HJ := Lib.hid hj
      have HF := Lib.hid hf
      clear hp hj hf
      go_simp
      exact hK _ _ (HJ.out.put (Below.refl _ _) 47 (by decide) _ (fun u hu => by cases hu; rfl) (fun h => absurd h (by decide)) (fun h => absurd h (by decide)) (fun h => absurd h (by decide)) (fun h => absurd h (by decide)) (fun h => absurd h (by decide)))
    -- 48 move
    · intro f a w1 hf hp hj K hK
      refine ⟨wanted_none rfl, ?_⟩
      have t101 : a.tmps.getD 101 undef = .bool true := hj.get 47 (hp 47 (by decide)) rfl
      have HJ := Lib.hid hj
      have HF := Lib.hid hf
      clear hp hj hf
      go_simp
      exact hK _ _ (HJ.out.put (Below.refl _ _) 48 (by decide) _ (fun u hu => by cases hu; rfl) (fun h => absurd h (by decide)) (fun h => absurd h (by decide)) (fun h => absurd h (by decide)) (fun h => absurd h (by decide)) (fun h => absurd h (by decide)))
    -- 49 move
    · intro f a w1 hf hp hj K hK
      refine ⟨wanted_of (j := 48) (t := 102) (b := true) rfl rfl (hj.val 48 _ (hp 48 (by decide)) rfl), ?_⟩
      have t14 := hj.base 14 _ rfl
      have HJ := Lib.hid hj
      have HF := Lib.hid hf
      clear hp hj hf
      go_simp
      exact hK _ _ (HJ.out.put (Below.refl _ _) 49 (by decide) _ (fun u hu => by cases hu; rfl) (fun h => absurd h (by decide)) (fun h => absurd h (by decide)) (fun h => absurd h (by decide)) (fun h => absurd h (by decide)) (fun h => absurd h (by decide)))
    -- 50 binOp
    · intro f a w1 hf hp hj K hK
      refine ⟨wanted_of (j := 48) (t := 102) (b := true) rfl rfl (hj.val 48 _ (hp 48 (by decide)) rfl), ?_⟩
      have t103 : a.tmps.getD 103 undef = .int .i64 0 := hj.get 49 (hp 49 (by decide)) rfl
      have HJ := Lib.hid hj
      have HF := Lib.hid hf
      clear hp hj hf
      go_simp
      exact hK _ _ (HJ.out.put (Below.refl _ _) 50 (by decide) _ (fun u hu => by cases hu; rfl) (fun h => absurd h (by decide)) (fun h => absurd h (by decide)) (fun h => absurd h (by decide)) (fun h => absurd h (by decide)) (fun h => absurd h (by decide)))
    -- 51 pick
    · intro f a w1 hf hp hj K hK
      refine ⟨wanted_none rfl, ?_⟩
      have t102 : a.tmps.getD 102 undef = .bool true := hj.get 48 (hp 48 (by decide)) rfl
      have t104 : a.tmps.getD 104 undef = .bool true := hj.get 50 (hp 50 (by decide)) rfl
      have HJ := Lib.hid hj
      have HF := Lib.hid hf
      clear hp hj hf
      go_simp
      exact hK _ _ (HJ.out.put (Below.refl _ _) 51 (by decide) _ (fun u hu => by cases hu; rfl) (fun h => absurd h (by decide)) (fun h => absurd h (by decide)) (fun h => absurd h (by decide)) (fun h => absurd h (by decide)) (fun h => absurd h (by decide)))
    -- 52 move
    · intro f a w1 hf hp hj K hK
      refine ⟨wanted_none rfl, ?_⟩
      have t105 : a.tmps.getD 105 undef = .bool true := hj.get 51 (hp 51 (by decide)) rfl
      have HJ := Lib.hid hj
      have HF := Lib.hid hf
      clear hp hj hf
      go_simp
      exact hK _ _ (HJ.out.put (Below.refl _ _) 52 (by decide) _ (fun u hu => by cases hu; rfl) (fun h => absurd h (by decide)) (fun h => absurd h (by decide)) (fun h => absurd h (by decide)) (fun h => absurd h (by decide)) (fun h => absurd h (by decide)))
    -- 53 move
    · intro f a w1 hf hp hj K hK
      refine ⟨wanted_of (j := 52) (t := 106) (b := true) rfl rfl (hj.val 52 _ (hp 52 (by decide)) rfl), ?_⟩
      have t3 := hj.base 3 _ rfl
      have HJ := Lib.hid hj
      have HF := Lib.hid hf
      clear hp hj hf
      go_simp
      exact hK _ _ (HJ.out.put (Below.refl _ _) 53 (by decide) _ (fun u hu => by cases hu; rfl) (fun h => absurd h (by decide)) (fun h => absurd h (by decide)) (fun h => absurd h (by decide)) (fun h => absurd h (by decide)) (fun h => absurd h (by decide)))
    -- 54 indexAddr
    · intro f a w1 hf hp hj K hK
      refine ⟨wanted_of (j := 52) (t := 106) (b := true) rfl rfl (hj.val 52 _ (hp 52 (by decide)) rfl), ?_⟩
      have t107 : a.tmps.getD 107 undef = .slice (some ⟨s + 1 + 1, 0, none⟩) 2 2 := hj.get 53 (hp 53 (by decide)) rfl
      have HJ := Lib.hid hj
      have HF := Lib.hid hf
      clear hp hj hf
      go_simp
      exact hK _ _ (HJ.out.put (Below.refl _ _) 54 (by decide) _ (fun u hu => by cases hu; rfl) (fun h => absurd h (by decide)) (fun h => absurd h (by decide)) (fun h => absurd h (by decide)) (fun h => absurd h (by decide)) (fun h => absurd h (by decide)))
    -- 55 load
    · intro f a w1 hf hp hj K hK
      refine ⟨wanted_of (j := 52) (t := 106) (b := true) rfl rfl (hj.val 52 _ (hp 52 (by decide)) rfl), ?_⟩
      have t108 : a.tmps.getD 108 undef = .pointer (some ⟨s + 1 + 1, 0, none⟩) := hj.get 54 (hp 54 (by decide)) rfl
      have HJ := Lib.hid hj
      have HF := Lib.hid hf
      obtain ⟨x0, x1⟩ := hj.st.c
      clear hp hj hf
      go_simp
      exact hK _ _ (HJ.out.put (Below.refl _ _) 55 (by decide) _ (fun u hu => by cases hu; rfl) (fun h => absurd h (by decide)) (fun h => absurd h (by decide)) (fun h => absurd h (by decide)) (fun h => absurd h (by decide)) (fun h => absurd h (by decide)))
    -- 56 call
    · intro f a w1 hf hp hj K hK
      refine ⟨wanted_of (j := 52) (t := 106) (b := true) rfl rfl (hj.val 52 _ (hp 52 (by decide)) rfl), ?_⟩
      have t109 : a.tmps.getD 109 undef = .slice (some ⟨s, 0, none⟩) 2 2 := hj.get 55 (hp 55 (by decide)) rfl
      have HJ := Lib.hid hj
      have HF := Lib.hid hf
      clear hp hj hf
      go_wp2_with fail
      refine (KI1.out _ HJ.out.st).mono ?_
      rintro e w2 ⟨rfl, hw⟩
      go_simp
      exact hK _ _ (HJ.out.put (qd_below hw) 56 (by decide) _ (fun u hu => by cases hu; rfl) (fun h => absurd h (by decide)) (fun h => absurd h (by decide)) (fun h => absurd h (by decide)) (fun h => absurd h (by decide)) (fun h => absurd h (by decide)))
    -- 57 pick
    · intro f a w1 hf hp hj K hK
      refine ⟨wanted_none rfl, ?_⟩
      have t106 : a.tmps.getD 106 undef = .bool true := hj.get 52 (hp 52 (by decide)) rfl
      have t110 : a.tmps.getD 110 undef = .bool true := hj.get 56 (hp 56 (by decide)) rfl
      have HJ := Lib.hid hj
      have HF := Lib.hid hf
      clear hp hj hf
      go_simp
      exact hK _ _ (HJ.out.put (Below.refl _ _) 57 (by decide) _ (fun u hu => by cases hu; rfl) (fun h => absurd h (by decide)) (fun h => absurd h (by decide)) (fun h => absurd h (by decide)) (fun h => absurd h (by decide)) (fun h => absurd h (by decide)))
    -- 58 move
    · intro f a w1 hf hp hj K hK
      refine ⟨wanted_none rfl, ?_⟩
      have t111 : a.tmps.getD 111 undef = .bool true := hj.get 57 (hp 57 (by decide)) rfl
      have HJ := Lib.hid hj
      have HF := Lib.hid hf
      clear hp hj hf
      go_simp
      exact hK _ _ (HJ.out.put (Below.refl _ _) 58 (by decide) _ (fun u hu => by cases hu; rfl) (fun h => absurd h (by decide)) (fun h => absurd h (by decide)) (fun h => absurd h (by decide)) (fun h => absurd h (by decide)) (fun h => absurd h (by decide)))
    -- 59 move
    · intro f a w1 hf hp hj K hK
      refine ⟨wanted_of (j := 58) (t := 112) (b := true) rfl rfl (hj.val 58 _ (hp 58 (by decide)) rfl), ?_⟩
      have t3 := hj.base 3 _ rfl
      have HJ := Lib.hid hj
      have HF := Lib.hid hf
      clear hp hj hf
      go_simp
      exact hK _ _ (HJ.out.put (Below.refl _ _) 59 (by decide) _ (fun u hu => by cases hu; rfl) (fun h => absurd h (by decide)) (fun h => absurd h (by decide)) (fun h => absurd h (by decide)) (fun h => absurd h (by decide)) (fun h => absurd h (by decide)))
    -- 60 indexAddr
    · intro f a w1 hf hp hj K hK
      refine ⟨wanted_of (j := 58) (t := 112) (b := true) rfl rfl (hj.val 58 _ (hp 58 (by decide)) rfl), ?_⟩
      have t113 : a.tmps.getD 113 undef = .slice (some ⟨s + 1 + 1, 0, none⟩) 2 2 := hj.get 59 (hp 59 (by decide)) rfl
      have HJ := Lib.hid hj
      have HF := Lib.hid hf
      clear hp hj hf
      go_simp
      exact hK _ _ (HJ.out.put (Below.refl _ _) 60 (by decide) _ (fun u hu => by cases hu; rfl) (fun h => absurd h (by decide)) (fun h => absurd h (by decide)) (fun h => absurd h (by decide)) (fun h => absurd h (by decide)) (fun h => absurd h (by decide)))
    -- 61 load
    · intro f a w1 hf hp hj K hK
      refine ⟨wanted_of (j := 58) (t := 112) (b := true) rfl rfl (hj.val 58 _ (hp 58 (by decide)) rfl), ?_⟩
      have t114 : a.tmps.getD 114 undef = .pointer (some ⟨s + 1 + 1, 0, none⟩) := hj.get 60 (hp 60 (by decide)) rfl
      have HJ := Lib.hid hj
      have HF := Lib.hid hf
      obtain ⟨x0, x1⟩ := hj.st.c
      clear hp hj hf
      go_simp
      exact hK _ _ (HJ.out.put (Below.refl _ _) 61 (by decide) _ (fun u hu => by cases hu; rfl) (fun h => absurd h (by decide)) (fun h => absurd h (by decide)) (fun h => absurd h (by decide)) (fun h => absurd h (by decide)) (fun h => absurd h (by decide)))
    -- 62 call
    · intro f a w1 hf hp hj K hK
      refine ⟨wanted_of (j := 58) (t := 112) (b := true) rfl rfl (hj.val 58 _ (hp 58 (by decide)) rfl), ?_⟩
      have t115 : a.tmps.getD 115 undef = .slice (some ⟨s, 0, none⟩) 2 2 := hj.get 61 (hp 61 (by decide)) rfl
      have HJ := Lib.hid hj
      have HF := Lib.hid hf
      clear hp hj hf
      go_wp2_with fail
      refine (KI2.out _ HJ.out.st).mono ?_
      rintro e w2 ⟨rfl, hw⟩
      go_simp
      exact hK _ _ (HJ.out.put (qd_below hw) 62 (by decide) _ (fun u hu => by cases hu; rfl) (fun h => absurd h (by decide)) (fun h => absurd h (by decide)) (fun h => absurd h (by decide)) (fun h => absurd h (by decide)) (fun h => absurd h (by decide)))
    -- 63 unOp
    · intro f a w1 hf hp hj K hK
      refine ⟨wanted_of (j := 58) (t := 112) (b := true) rfl rfl (hj.val 58 _ (hp 58 (by decide)) rfl), ?_⟩
      have t116 : a.tmps.getD 116 undef = .bool false := hj.get 62 (hp 62 (by decide)) rfl
      have HJ := Lib.hid hj
      have HF := Lib.hid hf
      clear hp hj hf
      go_simp
      exact hK _ _ (HJ.out.put (Below.refl _ _) 63 (by decide) _ (fun u hu => by cases hu; rfl) (fun h => absurd h (by decide)) (fun h => absurd h (by decide)) (fun h => absurd h (by decide)) (fun h => absurd h (by decide)) (fun h => absurd h (by decide)))
    -- 64 pick
    · intro f a w1 hf hp hj K hK
      refine ⟨wanted_none rfl, ?_⟩
      have t112 : a.tmps.getD 112 undef = .bool true := hj.get 58 (hp 58 (by decide)) rfl
      have t117 : a.tmps.getD 117 undef = .bool true := hj.get 63 (hp 63 (by decide)) rfl
      have HJ := Lib.hid hj
      have HF := Lib.hid hf
      clear hp hj hf
      go_simp
      exact hK _ _ (HJ.out.put (Below.refl _ _) 64 (by decide) _ (fun u hu => by cases hu; rfl) (fun h => absurd h (by decide)) (fun h => absurd h (by decide)) (fun h => absurd h (by decide)) (fun h => absurd h (by decide)) (fun h => absurd h (by decide)))
    -- 65 move
    · intro f a w1 hf hp hj K hK
      refine ⟨wanted_none rfl, ?_⟩
      have t118 : a.tmps.getD 118 undef = .bool true := hj.get 64 (hp 64 (by decide)) rfl
      have HJ := Lib.hid hj
      have HF := Lib.hid hf
      clear hp hj hf
      go_simp
      exact hK _ _ (HJ.out.put (Below.refl _ _) 65 (by decide) _ (fun u hu => by cases hu; rfl) (fun h => absurd h (by decide)) (fun h => absurd h (by decide)) (fun h => absurd h (by decide)) (fun h => absurd h (by decide)) (fun h => absurd h (by decide)))
    -- 66 buildSlice
    · intro f a w1 hf hp hj K hK
      refine ⟨wanted_of (j := 65) (t := 119) (b := true) rfl rfl (hj.val 65 _ (hp 65 (by decide)) rfl), ?_⟩
      have HJ := Lib.hid hj
      have HF := Lib.hid hf
      clear hp hj hf
      go_simp
      exact hK _ _ (HJ.out.put ((Below.refl _ _).alloc (Nat.le_refl _) _) 66 (by decide) _ (fun u hu => by cases hu) (fun h => absurd h (by decide)) (fun h => absurd h (by decide)) (fun _ => ⟨w1.heap.size, rfl, new_lies w1 [0, 4]⟩) (fun h => absurd h (by decide)) (fun h => absurd h (by decide)))
    -- 67 call
    · intro f a w1 hf hp hj K hK
      refine ⟨wanted_of (j := 65) (t := 119) (b := true) rfl rfl (hj.val 65 _ (hp 65 (by decide)) rfl), ?_⟩
      obtain ⟨g, t120, hl⟩ := hj.b66 (hp 66 (by decide))
      simp only [List.length_cons, List.length_nil, Nat.zero_add, Nat.reduceAdd] at t120
      have HJ := Lib.hid hj
      have HF := Lib.hid hf
      clear hp hj hf
      go_wp2_with fail
      refine (KP1.out _ g hl).mono ?_
      rintro e w2 ⟨rfl, hw⟩
      go_simp
      exact hK _ _ (HJ.out.put (qd_below hw) 67 (by decide) _ (fun u hu => by cases hu; rfl) (fun h => absurd h (by decide)) (fun h => absurd h (by decide)) (fun h => absurd h (by decide)) (fun h => absurd h (by decide)) (fun h => absurd h (by decide)))
    -- 68 pick
    · intro f a w1 hf hp hj K hK
      refine ⟨wanted_none rfl, ?_⟩
      have t119 : a.tmps.getD 119 undef = .bool true := hj.get 65 (hp 65 (by decide)) rfl
      have t121 : a.tmps.getD 121 undef = .bool true := hj.get 67 (hp 67 (by decide)) rfl
      have HJ := Lib.hid hj
      have HF := Lib.hid hf
      clear hp hj hf
      go_simp
      exact hK _ _ (HJ.out.put (Below.refl _ _) 68 (by decide) _ (fun u hu => by cases hu; rfl) (fun h => absurd h (by decide)) (fun h => absurd h (by decide)) (fun h => absurd h (by decide)) (fun h => absurd h (by decide)) (fun h => absurd h (by decide)))
    -- 69 move
    · intro f a w1 hf hp hj K hK
      refine ⟨wanted_none rfl, ?_⟩
      have t122 : a.tmps.getD 122 undef = .bool true := hj.get 68 (hp 68 (by decide)) rfl
      have HJ := Lib.hid hj
      have HF := Lib.hid hf
      clear hp hj hf
      go_simp
      exact hK _ _ (HJ.out.put (Below.refl _ _) 69 (by decide) _ (fun u hu => by cases hu; rfl) (fun h => absurd h (by decide)) (fun h => absurd h (by decide)) (fun h => absurd h (by decide)) (fun h => absurd h (by decide)) (fun h => absurd h (by decide)))
    -- 70 buildSlice
    · intro f a w1 hf hp hj K hK
      refine ⟨wanted_of (j := 69) (t := 123) (b := true) rfl rfl (hj.val 69 _ (hp 69 (by decide)) rfl), ?_⟩
      have HJ := Lib.hid hj
      have HF := Lib.hid hf
      clear hp hj hf
      go_simp
      exact hK _ _ (HJ.out.put ((Below.refl _ _).alloc (Nat.le_refl _) _) 70 (by decide) _ (fun u hu => by cases hu) (fun h => absurd h (by decide)) (fun h => absurd h (by decide)) (fun h => absurd h (by decide)) (fun _ => ⟨w1.heap.size, rfl, new_lies w1 [0]⟩) (fun h => absurd h (by decide)))
    -- 71 call
    · intro f a w1 hf hp hj K hK
      refine ⟨wanted_of (j := 69) (t := 123) (b := true) rfl rfl (hj.val 69 _ (hp 69 (by decide)) rfl), ?_⟩
      obtain ⟨g, t124, hl⟩ := hj.b70 (hp 70 (by decide))
      simp only [List.length_cons, List.length_nil, Nat.zero_add, Nat.reduceAdd] at t124
      have HJ := Lib.hid hj
      have HF := Lib.hid hf
      clear hp hj hf
      go_wp2_with fail
      refine (KP2.out _ g hl).mono ?_
      rintro e w2 ⟨rfl, hw⟩
      go_simp
      exact hK _ _ (HJ.out.put (qd_below hw) 71 (by decide) _ (fun u hu => by cases hu; rfl) (fun h => absurd h (by decide)) (fun h => absurd h (by decide)) (fun h => absurd h (by decide)) (fun h => absurd h (by decide)) (fun h => absurd h (by decide)))
    -- 72 unOp
    · intro f a w1 hf hp hj K hK
      refine ⟨wanted_of (j := 69) (t := 123) (b := true) rfl rfl (hj.val 69 _ (hp 69 (by decide)) rfl), ?_⟩
      have t125 : a.tmps.getD 125 undef = .bool false := hj.get 71 (hp 71 (by decide)) rfl
      have HJ := Lib.hid hj
      have HF := Lib.hid hf
      clear hp hj hf
      go_simp
      exact hK _ _ (HJ.out.put (Below.refl _ _) 72 (by decide) _ (fun u hu => by cases hu; rfl) (fun h => absurd h (by decide)) (fun h => absurd h (by decide)) (fun h => absurd h (by decide)) (fun h => absurd h (by decide)) (fun h => absurd h (by decide)))
    -- 73 pick
    · intro f a w1 hf hp hj K hK
      refine ⟨wanted_none rfl, ?_⟩
      have t123 : a.tmps.getD 123 undef = .bool true := hj.get 69 (hp 69 (by decide)) rfl
      have t126 : a.tmps.getD 126 undef = .bool true := hj.get 72 (hp 72 (by decide)) rfl
      have HJ := Lib.hid hj
      have HF := Lib.hid hf
      clear hp hj hf
      go_simp
      exact hK _ _ (HJ.out.put (Below.refl _ _) 73 (by decide) _ (fun u hu => by cases hu; rfl) (fun h => absurd h (by decide)) (fun h => absurd h (by decide)) (fun h => absurd h (by decide)) (fun h => absurd h (by decide)) (fun h => absurd h (by decide)))
    -- 74 move
    · intro f a w1 hf hp hj K hK
      refine ⟨wanted_none rfl, ?_⟩
      have t127 : a.tmps.getD 127 undef = .bool true := hj.get 73 (hp 73 (by decide)) rfl
      have HJ := Lib.hid hj
      have HF := Lib.hid hf
      clear hp hj hf
      go_simp
      exact hK _ _ (HJ.out.put (Below.refl _ _) 74 (by decide) _ (fun u hu => by cases hu; rfl) (fun h => absurd h (by decide)) (fun h => absurd h (by decide)) (fun h => absurd h (by decide)) (fun h => absurd h (by decide)) (fun h => absurd h (by decide)))
    -- 75 move
    · intro f a w1 hf hp hj K hK
      refine ⟨wanted_of (j := 74) (t := 128) (b := true) rfl rfl (hj.val 74 _ (hp 74 (by decide)) rfl), ?_⟩
      have t4 := hj.base 4 _ rfl
      have HJ := Lib.hid hj
      have HF := Lib.hid hf
      clear hp hj hf
      go_simp
      exact hK _ _ (HJ.out.put (Below.refl _ _) 75 (by decide) _ (fun u hu => by cases hu; rfl) (fun h => absurd h (by decide)) (fun h => absurd h (by decide)) (fun h => absurd h (by decide)) (fun h => absurd h (by decide)) (fun h => absurd h (by decide)))
    -- 76 move
    · intro f a w1 hf hp hj K hK
      refine ⟨wanted_of (j := 74) (t := 128) (b := true) rfl rfl (hj.val 74 _ (hp 74 (by decide)) rfl), ?_⟩
      have t5 := hj.base 5 _ rfl
      have HJ := Lib.hid hj
      have HF := Lib.hid hf
      clear hp hj hf
      go_simp
      exact hK _ _ (HJ.out.put (Below.refl _ _) 76 (by decide) _ (fun u hu => by cases hu; rfl) (fun h => absurd h (by decide)) (fun h => absurd h (by decide)) (fun h => absurd h (by decide)) (fun h => absurd h (by decide)) (fun h => absurd h (by decide)))
    -- 77 move
    · intro f a w1 hf hp hj K hK
      refine ⟨wanted_of (j := 74) (t := 128) (b := true) rfl rfl (hj.val 74 _ (hp 74 (by decide)) rfl), ?_⟩
      have t3 := hj.base 3 _ rfl
      have HJ := Lib.hid hj
      have HF := Lib.hid hf
      clear hp hj hf
      go_simp
      exact hK _ _ (HJ.out.put (Below.refl _ _) 77 (by decide) _ (fun u hu => by cases hu; rfl) (fun h => absurd h (by decide)) (fun h => absurd h (by decide)) (fun h => absurd h (by decide)) (fun h => absurd h (by decide)) (fun h => absurd h (by decide)))
    -- 78 indexAddr
    · intro f a w1 hf hp hj K hK
      refine ⟨wanted_of (j := 74) (t := 128) (b := true) rfl rfl (hj.val 74 _ (hp 74 (by decide)) rfl), ?_⟩
      have t131 : a.tmps.getD 131 undef = .slice (some ⟨s + 1 + 1, 0, none⟩) 2 2 := hj.get 77 (hp 77 (by decide)) rfl
      have HJ := Lib.hid hj
      have HF := Lib.hid hf
      clear hp hj hf
      go_simp
      exact hK _ _ (HJ.out.put (Below.refl _ _) 78 (by decide) _ (fun u hu => by cases hu; rfl) (fun h => absurd h (by decide)) (fun h => absurd h (by decide)) (fun h => absurd h (by decide)) (fun h => absurd h (by decide)) (fun h => absurd h (by decide)))
    -- 79 load
    · intro f a w1 hf hp hj K hK
      refine ⟨wanted_of (j := 74) (t := 128) (b := true) rfl rfl (hj.val 74 _ (hp 74 (by decide)) rfl), ?_⟩
      have t132 : a.tmps.getD 132 undef = .pointer (some ⟨s + 1 + 1, 0, none⟩) := hj.get 78 (hp 78 (by decide)) rfl
      have HJ := Lib.hid hj
      have HF := Lib.hid hf
      obtain ⟨x0, x1⟩ := hj.st.c
      clear hp hj hf
      go_simp
      exact hK _ _ (HJ.out.put (Below.refl _ _) 79 (by decide) _ (fun u hu => by cases hu; rfl) (fun h => absurd h (by decide)) (fun h => absurd h (by decide)) (fun h => absurd h (by decide)) (fun h => absurd h (by decide)) (fun h => absurd h (by decide)))
    -- 80 call
    · intro f a w1 hf hp hj K hK
      refine ⟨wanted_of (j := 74) (t := 128) (b := true) rfl rfl (hj.val 74 _ (hp 74 (by decide)) rfl), ?_⟩
      have t129 : a.tmps.getD 129 undef = .slice A1 2 c1 := hj.get 75 (hp 75 (by decide)) rfl
      have t130 : a.tmps.getD 130 undef = .slice A2 2 c2 := hj.get 76 (hp 76 (by decide)) rfl
      have t133 : a.tmps.getD 133 undef = .slice (some ⟨s, 0, none⟩) 2 2 := hj.get 79 (hp 79 (by decide)) rfl
      have HJ := Lib.hid hj
      have HF := Lib.hid hf
      clear hp hj hf
      go_wp2_with fail
      refine (KIn.out _ HJ.out.st).mono ?_
      rintro e w2 ⟨rfl, rfl⟩
      go_simp
      exact hK _ _ (HJ.out.put (Below.refl _ _) 80 (by decide) _ (fun u hu => by cases hu; rfl) (fun h => absurd h (by decide)) (fun h => absurd h (by decide)) (fun h => absurd h (by decide)) (fun h => absurd h (by decide)) (fun h => absurd h (by decide)))
    -- 81 pick
    · intro f a w1 hf hp hj K hK
      refine ⟨wanted_none rfl, ?_⟩
      have t128 : a.tmps.getD 128 undef = .bool true := hj.get 74 (hp 74 (by decide)) rfl
      have t134 : a.tmps.getD 134 undef = .bool true := hj.get 80 (hp 80 (by decide)) rfl
      have HJ := Lib.hid hj
      have HF := Lib.hid hf
      clear hp hj hf
      go_simp
      exact hK _ _ (HJ.out.put (Below.refl _ _) 81 (by decide) _ (fun u hu => by cases hu; rfl) (fun h => absurd h (by decide)) (fun h => absurd h (by decide)) (fun h => absurd h (by decide)) (fun h => absurd h (by decide)) (fun h => absurd h (by decide)))
    -- 82 move
    · intro f a w1 hf hp hj K hK
      refine ⟨wanted_none rfl, ?_⟩
      have t135 : a.tmps.getD 135 undef = .bool true := hj.get 81 (hp 81 (by decide)) rfl
      have HJ := Lib.hid hj
      have HF := Lib.hid hf
      clear hp hj hf
      go_simp
      exact hK _ _ (HJ.out.put (Below.refl _ _) 82 (by decide) _ (fun u hu => by cases hu; rfl) (fun h => absurd h (by decide)) (fun h => absurd h (by decide)) (fun h => absurd h (by decide)) (fun h => absurd h (by decide)) (fun h => absurd h (by decide)))
    -- 83 move
    · intro f a w1 hf hp hj K hK
      refine ⟨wanted_of (j := 82) (t := 136) (b := true) rfl rfl (hj.val 82 _ (hp 82 (by decide)) rfl), ?_⟩
      have t4 := hj.base 4 _ rfl
      have HJ := Lib.hid hj
      have HF := Lib.hid hf
      clear hp hj hf
      go_simp
      exact hK _ _ (HJ.out.put (Below.refl _ _) 83 (by decide) _ (fun u hu => by cases hu; rfl) (fun h => absurd h (by decide)) (fun h => absurd h (by decide)) (fun h => absurd h (by decide)) (fun h => absurd h (by decide)) (fun h => absurd h (by decide)))
    -- 84 move
    · intro f a w1 hf hp hj K hK
      refine ⟨wanted_of (j := 82) (t := 136) (b := true) rfl rfl (hj.val 82 _ (hp 82 (by decide)) rfl), ?_⟩
      have t5 := hj.base 5 _ rfl
      have HJ := Lib.hid hj
      have HF := Lib.hid hf
      clear hp hj hf
      go_simp
      exact hK _ _ (HJ.out.put (Below.refl _ _) 84 (by decide) _ (fun u hu => by cases hu; rfl) (fun h => absurd h (by decide)) (fun h => absurd h (by decide)) (fun h => absurd h (by decide)) (fun h => absurd h (by decide)) (fun h => absurd h (by decide)))
    -- 85 call
    · intro f a w1 hf hp hj K hK
      refine ⟨wanted_of (j := 82) (t := 136) (b := true) rfl rfl (hj.val 82 _ (hp 82 (by decide)) rfl), ?_⟩
      have t137 : a.tmps.getD 137 undef = .slice A1 2 c1 := hj.get 83 (hp 83 (by decide)) rfl
      have t138 : a.tmps.getD 138 undef = .slice A2 2 c2 := hj.get 84 (hp 84 (by decide)) rfl
      have HJ := Lib.hid hj
      have HF := Lib.hid hf
      clear hp hj hf
      go_wp2_with fail
      refine (KOp.out _ HJ.out.st).mono ?_
      rintro e w2 ⟨A9, c9, rfl, _, _, _, hb⟩
      go_simp
      exact hK _ _ (HJ.out.put hb 85 (by decide) _ (fun u hu => by cases hu) (fun h => absurd h (by decide)) (fun h => absurd h (by decide)) (fun h => absurd h (by decide)) (fun h => absurd h (by decide)) (fun _ => ⟨A9, c9, rfl⟩))
    -- 86 call
    · intro f a w1 hf hp hj K hK
      refine ⟨wanted_of (j := 82) (t := 136) (b := true) rfl rfl (hj.val 82 _ (hp 82 (by decide)) rfl), ?_⟩
      obtain ⟨A9, c9, t139⟩ := hj.b85 (hp 85 (by decide))
      have HJ := Lib.hid hj
      have HF := Lib.hid hf
      clear hp hj hf
      go_simp
      exact hK _ _ (HJ.out.put (Below.refl _ _) 86 (by decide) _ (fun u hu => by cases hu; rfl) (fun h => absurd h (by decide)) (fun h => absurd h (by decide)) (fun h => absurd h (by decide)) (fun h => absurd h (by decide)) (fun h => absurd h (by decide)))
    -- 87 binOp
    · intro f a w1 hf hp hj K hK
      refine ⟨wanted_of (j := 82) (t := 136) (b := true) rfl rfl (hj.val 82 _ (hp 82 (by decide)) rfl), ?_⟩
      have t140 : a.tmps.getD 140 undef = .int .i64 2 := hj.get 86 (hp 86 (by decide)) rfl
      have HJ := Lib.hid hj
      have HF := Lib.hid hf
      clear hp hj hf
      go_simp
      exact hK _ _ (HJ.out.put (Below.refl _ _) 87 (by decide) _ (fun u hu => by cases hu; rfl) (fun h => absurd h (by decide)) (fun h => absurd h (by decide)) (fun h => absurd h (by decide)) (fun h => absurd h (by decide)) (fun h => absurd h (by decide)))
    -- 88 pick
    · intro f a w1 hf hp hj K hK
      refine ⟨wanted_none rfl, ?_⟩
      have t136 : a.tmps.getD 136 undef = .bool true := hj.get 82 (hp 82 (by decide)) rfl
      have t141 : a.tmps.getD 141 undef = .bool true := hj.get 87 (hp 87 (by decide)) rfl
      have HJ := Lib.hid hj
      have HF := Lib.hid hf
      clear hp hj hf
      go_simp
      exact hK _ _ (HJ.out.put (Below.refl _ _) 88 (by decide) _ (fun u hu => by cases hu; rfl) (fun h => absurd h (by decide)) (fun h => absurd h (by decide)) (fun h => absurd h (by decide)) (fun h => absurd h (by decide)) (fun h => absurd h (by decide)))
    -- 89 move
    · intro f a w1 hf hp hj K hK
      refine ⟨wanted_none rfl, ?_⟩
      have t142 : a.tmps.getD 142 undef = .bool true := hj.get 88 (hp 88 (by decide)) rfl
      have HJ := Lib.hid hj
      have HF := Lib.hid hf
      clear hp hj hf
      go_simp
      exact hK _ _ (HJ.out.put (Below.refl _ _) 89 (by decide) _ (fun u hu => by cases hu; rfl) (fun h => absurd h (by decide)) (fun h => absurd h (by decide)) (fun h => absurd h (by decide)) (fun h => absurd h (by decide)) (fun h => absurd h (by decide)))
    -- 90 move
    · intro f a w1 hf hp hj K hK
      refine ⟨wanted_of (j := 89) (t := 143) (b := true) rfl rfl (hj.val 89 _ (hp 89 (by decide)) rfl), ?_⟩
      have t3 := hj.base 3 _ rfl
      have HJ := Lib.hid hj
      have HF := Lib.hid hf
      clear hp hj hf
      go_simp
      exact hK _ _ (HJ.out.put (Below.refl _ _) 90 (by decide) _ (fun u hu => by cases hu; rfl) (fun h => absurd h (by decide)) (fun h => absurd h (by decide)) (fun h => absurd h (by decide)) (fun h => absurd h (by decide)) (fun h => absurd h (by decide)))
    -- 91 indexAddr
    · intro f a w1 hf hp hj K hK
      refine ⟨wanted_of (j := 89) (t := 143) (b := true) rfl rfl (hj.val 89 _ (hp 89 (by decide)) rfl), ?_⟩
      have t144 : a.tmps.getD 144 undef = .slice (some ⟨s + 1 + 1, 0, none⟩) 2 2 := hj.get 90 (hp 90 (by decide)) rfl
      have HJ := Lib.hid hj
      have HF := Lib.hid hf
      clear hp hj hf
      go_simp
      exact hK _ _ (HJ.out.put (Below.refl _ _) 91 (by decide) _ (fun u hu => by cases hu; rfl) (fun h => absurd h (by decide)) (fun h => absurd h (by decide)) (fun h => absurd h (by decide)) (fun h => absurd h (by decide)) (fun h => absurd h (by decide)))
    -- 92 load
    · intro f a w1 hf hp hj K hK
      refine ⟨wanted_of (j := 89) (t := 143) (b := true) rfl rfl (hj.val 89 _ (hp 89 (by decide)) rfl), ?_⟩
      have t145 : a.tmps.getD 145 undef = .pointer (some ⟨s + 1 + 1, 0, none⟩) := hj.get 91 (hp 91 (by decide)) rfl
      have HJ := Lib.hid hj
      have HF := Lib.hid hf
      obtain ⟨x0, x1⟩ := hj.st.c
      clear hp hj hf
      go_simp
      exact hK _ _ (HJ.out.put (Below.refl _ _) 92 (by decide) _ (fun u hu => by cases hu; rfl) (fun h => absurd h (by decide)) (fun h => absurd h (by decide)) (fun h => absurd h (by decide)) (fun h => absurd h (by decide)) (fun h => absurd h (by decide)))
    -- 93 move
    · intro f a w1 hf hp hj K hK
      refine ⟨wanted_of (j := 89) (t := 143) (b := true) rfl rfl (hj.val 89 _ (hp 89 (by decide)) rfl), ?_⟩
      have t3 := hj.base 3 _ rfl
      have HJ := Lib.hid hj
      have HF := Lib.hid hf
      clear hp hj hf
      go_simp
      exact hK _ _ (HJ.out.put (Below.refl _ _) 93 (by decide) _ (fun u hu => by cases hu; rfl) (fun h => absurd h (by decide)) (fun h => absurd h (by decide)) (fun h => absurd h (by decide)) (fun h => absurd h (by decide)) (fun h => absurd h (by decide)))
    -- 94 indexAddr
    · intro f a w1 hf hp hj K hK
      refine ⟨wanted_of (j := 89) (t := 143) (b := true) rfl rfl (hj.val 89 _ (hp 89 (by decide)) rfl), ?_⟩
      have t147 : a.tmps.getD 147 undef = .slice (some ⟨s + 1 + 1, 0, none⟩) 2 2 := hj.get 93 (hp 93 (by decide)) rfl
      have HJ := Lib.hid hj
      have HF := Lib.hid hf
      clear hp hj hf
      go_simp
      exact hK _ _ (HJ.out.put (Below.refl _ _) 94 (by decide) _ (fun u hu => by cases hu; rfl) (fun h => absurd h (by decide)) (fun h => absurd h (by decide)) (fun h => absurd h (by decide)) (fun h => absurd h (by decide)) (fun h => absurd h (by decide)))
    -- 95 load
    · intro f a w1 hf hp hj K hK
      refine ⟨wanted_of (j := 89) (t := 143) (b := true) rfl rfl (hj.val 89 _ (hp 89 (by decide)) rfl), ?_⟩
      have t148 : a.tmps.getD 148 undef = .pointer (some ⟨s + 1 + 1, 1, none⟩) := hj.get 94 (hp 94 (by decide)) rfl
      have HJ := Lib.hid hj
      have HF := Lib.hid hf
      obtain ⟨x0, x1⟩ := hj.st.c
      clear hp hj hf
      go_simp
      exact hK _ _ (HJ.out.put (Below.refl _ _) 95 (by decide) _ (fun u hu => by cases hu; rfl) (fun h => absurd h (by decide)) (fun h => absurd h (by decide)) (fun h => absurd h (by decide)) (fun h => absurd h (by decide)) (fun h => absurd h (by decide)))
    -- 96 call
    · intro f a w1 hf hp hj K hK
      refine ⟨wanted_of (j := 89) (t := 143) (b := true) rfl rfl (hj.val 89 _ (hp 89 (by decide)) rfl), ?_⟩
      have t146 : a.tmps.getD 146 undef = .slice (some ⟨s, 0, none⟩) 2 2 := hj.get 92 (hp 92 (by decide)) rfl
      have t149 : a.tmps.getD 149 undef = .slice (some ⟨s + 1, 0, none⟩) 2 2 := hj.get 95 (hp 95 (by decide)) rfl
      have HJ := Lib.hid hj
      have HF := Lib.hid hf
      clear hp hj hf
      go_wp2_with fail
      refine (KOr.out _ HJ.out.st).mono ?_
      rintro e w2 ⟨rfl, hw⟩
      go_simp
      exact hK _ _ (HJ.out.put (qd_below hw) 96 (by decide) _ (fun u hu => by cases hu; rfl) (fun h => absurd h (by decide)) (fun h => absurd h (by decide)) (fun h => absurd h (by decide)) (fun h => absurd h (by decide)) (fun h => absurd h (by decide)))
    -- 97 binOp
    · intro f a w1 hf hp hj K hK
      refine ⟨wanted_of (j := 89) (t := 143) (b := true) rfl rfl (hj.val 89 _ (hp 89 (by decide)) rfl), ?_⟩
      have t150 : a.tmps.getD 150 undef = .int .i64 (-1) := hj.get 96 (hp 96 (by decide)) rfl
      have HJ := Lib.hid hj
      have HF := Lib.hid hf
      clear hp hj hf
      go_simp
      exact hK _ _ (HJ.out.put (Below.refl _ _) 97 (by decide) _ (fun u hu => by cases hu; rfl) (fun h => absurd h (by decide)) (fun h => absurd h (by decide)) (fun h => absurd h (by decide)) (fun h => absurd h (by decide)) (fun h => absurd h (by decide)))
    -- 98 pick
    · intro f a w1 hf hp hj K hK
      refine ⟨wanted_none rfl, ?_⟩
      have t143 : a.tmps.getD 143 undef = .bool true := hj.get 89 (hp 89 (by decide)) rfl
      have t151 : a.tmps.getD 151 undef = .bool true := hj.get 97 (hp 97 (by decide)) rfl
      have HJ := Lib.hid hj
      have HF := Lib.hid hf
      clear hp hj hf
      go_simp
      exact hK _ _ (HJ.out.put (Below.refl _ _) 98 (by decide) _ (fun u hu => by cases hu; rfl) (fun h => absurd h (by decide)) (fun h => absurd h (by decide)) (fun h => absurd h (by decide)) (fun h => absurd h (by decide)) (fun h => absurd h (by decide)))
    -- 99 assign
    · intro f a w1 hf hp hj K hK
      refine ⟨wanted_none rfl, ?_⟩
      have t152 : a.tmps.getD 152 undef = .bool true := hj.get 98 (hp 98 (by decide)) rfl
      have HJ := Lib.hid hj
      have HF := Lib.hid hf
      clear hp hj hf
      go_simp
      exact hK (.bool true) w1 HJ.out.fin
  · intro a w2 h
    have h0 := h.last rfl
    have hd := h.df
    have hs := h.st.b
    clear h
    have h00 : a.tmps[0]?.getD undef = .bool true := by rw [h0]; rfl
    clear h0
    go_wp2
    exact bodyPost_ret (v := .bool true) (by simp [results, Try.results25, go_sem, h00]) hd ⟨rfl, hs⟩
end Go.Proofs.Yteljkppcaanniaa
