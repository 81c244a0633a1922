/- Layer 21 (bin): a reader in the memory; From, At, Left, Err, Fail, next, joined, least. -/
import Derived.Test.YtkfmebdpfjjkjaaBinD
import Derived.Test.YtkfmebdpfjjkjaaVecT
namespace Go.Proofs.Ytkfmebdpfjjkjaa
open Go.RowKit
set_option linter.unusedVariables false
set_option linter.unusedSimpArgs false

/-- nothing but block g, and new blocks -/
structure Wr (g : Nat) (w w' : World) : Prop where
  os : w'.os = w.os
  tape : w'.tape = w.tape
  output : w'.output = w.output
  size : w.heap.size ≤ w'.heap.size
  block : ∀ k, k < w.heap.size → k ≠ g → w'.heap[k]? = w.heap[k]?
theorem Wr.refl (g : Nat) (w : World) : Wr g w w := ⟨rfl, rfl, rfl, Nat.le_refl _, fun _ _ _ => rfl⟩
theorem Wr.trans {g : Nat} {a b c : World} (h : Wr g a b) (k : Wr g b c) : Wr g a c :=
  ⟨k.os.trans h.os, k.tape.trans h.tape, k.output.trans h.output, Nat.le_trans h.size k.size, fun i hi hg => (k.block i (Nat.lt_of_lt_of_le hi h.size) hg).trans (h.block i hi hg)⟩
theorem Wr.of (g : Nat) {w w' : World} (h : Below w.heap.size w w') : Wr g w w' := ⟨h.os, h.tape, h.output, h.size, fun k hk _ => h.block k hk⟩
theorem Wr.set (g i : Nat) (w : World) (u : Value) : Wr g w (w.setCell ⟨g, i, none⟩ u) := ⟨rfl, rfl, rfl, by simp [World.setCell], fun k _ hg => Below.heap_setCell _ _ _ _ hg⟩
theorem Wr.low {g B : Nat} {w w' : World} (h : Wr g w w') (hg : B ≤ g) (hB : B ≤ w.heap.size) : Below B w w' := ⟨h.os, h.tape, h.output, h.size, fun k hk => h.block k (by omega) (by omega)⟩
theorem Wr.box {g b : Nat} {w w' : World} {cs : Array Value} {t : TypeId} (h : Wr g w w') (hb : Box w b cs t) (hne : b ≠ g) : Box w' b cs t := (h.block b hb.lt hne).trans hb
theorem LiesY.wr {g : Nat} {w w' : World} {A : Option Addr} {l : List Int} (h : LiesY w g A l) (hw : Wr g w w') (hg : g ≤ w.heap.size) : LiesY w' g A l := h.below (hw.low (Nat.le_refl _) hg)
/-- a reader -/
def RdAt (w : World) (B g : Nat) (b : List Int) (k : Nat) (e : Int) : Prop :=
  ∃ A c, Box w g #[.slice A b.length c, .int .i64 (k : Nat), .int .i64 e] 118 ∧ k ≤ b.length ∧ b.length ≤ c ∧ c ≤ maxLen ∧ (A = none → c = 0) ∧ B ≤ g ∧ LiesY w g A b ∧ (∀ ad, A = some ad → B ≤ ad.block ∧ ad.block < g) ∧ byt b ∧ b.length ≤ 1000000
theorem RdAt.lt {w : World} {B g k : Nat} {b : List Int} {e : Int} (h : RdAt w B g b k e) : g < w.heap.size ∧ B ≤ g ∧ k ≤ b.length ∧ b.length ≤ 1000000 ∧ byt b := by
  obtain ⟨A, c, h1, h2, -, -, -, h6, -, -, h9, h10⟩ := h
  exact ⟨h1.lt, h6, h2, h10, h9⟩
theorem RdAt.below {w w' : World} {B g k : Nat} {b : List Int} {e : Int} (h : RdAt w B g b k e) (hb : Below w.heap.size w w') : RdAt w' B g b k e := by
  obtain ⟨A, c, h1, h2, h3, h4, h5, h6, h7, h8⟩ := h
  exact ⟨A, c, h1.below hb h1.lt, h2, h3, h4, h5, h6, h7.below (hb.mono (Nat.le_of_lt h1.lt)), h8⟩
theorem RdAt.wr {w w' : World} {B g g' k : Nat} {b : List Int} {e : Int} (h : RdAt w B g b k e) (hw : Wr g' w w') (hg : g' < B ∨ g < g') : RdAt w' B g b k e := by
  obtain ⟨A, c, h1, h2, h3, h4, h5, h6, h7, h8, h9⟩ := h
  refine ⟨A, c, hw.box h1 (by omega), h2, h3, h4, h5, h6, fun h0 => ?_, h8, h9⟩
  obtain ⟨ad, e, hb, hc⟩ := h7 h0
  have hlt := h1.lt
  refine ⟨ad, e, hb, fun j hj => ?_⟩
  rw [← hc j hj]
  have := h8 ad e
  exact World.cell?_of_block (w := w) (by rw [add_block]; exact hw.block _ (by omega) (by omega))
theorem RdAt.err {w : World} {B g k : Nat} {b : List Int} {e : Int} (h : RdAt w B g b k e) (x : Int) : RdAt (w.setCell ⟨g, 2, none⟩ (.int .i64 x)) B g b k x := by
  obtain ⟨A, c, h1, h2, h3, h4, h5, h6, h7, h8⟩ := h
  exact ⟨A, c, h1.set 2 _, h2, h3, h4, h5, h6, h7.wr (Wr.set g 2 w _) (Nat.le_of_lt h1.lt), h8⟩
theorem RdAt.to {w : World} {B g k : Nat} {b : List Int} {e : Int} (h : RdAt w B g b k e) (k' : Nat) (hk : k' ≤ b.length) : RdAt (w.setCell ⟨g, 1, none⟩ (.int .i64 (k' : Nat))) B g b k' e := by
  obtain ⟨A, c, h1, h2, h3, h4, h5, h6, h7, h8⟩ := h
  exact ⟨A, c, h1.set 1 _, hk, h3, h4, h5, h6, h7.wr (Wr.set g 1 w _) (Nat.le_of_lt h1.lt), h8⟩
theorem RdAt.cells {w : World} {B g k : Nat} {b : List Int} {e : Int} (h : RdAt w B g b k e) : ∃ A c, w.cell? ⟨g, 0, none⟩ = some (.slice A b.length c) ∧ w.cell? ⟨g, 1, none⟩ = some (.int .i64 (k : Nat)) ∧ w.cell? ⟨g, 2, none⟩ = some (.int .i64 e) ∧ w.frozen? ⟨g, 1, none⟩ = false ∧ w.frozen? ⟨g, 2, none⟩ = false := by
  obtain ⟨A, c, h1, -⟩ := h
  exact ⟨A, c, h1.cell 0, h1.cell 1, h1.cell 2, h1.free 1, h1.free 2⟩
set_option maxRecDepth 100000 in
set_option maxHeartbeats 2000000 in
theorem bin_From (b : List Int) (A : Option Addr) (c : Nat) (w : World) (hA : LiesY w w.heap.size A b) (hAc : A = none → c = 0) (hl : b.length ≤ 1000000) (hb : byt b) :
    Calls Try.prog 29 #[.slice A b.length c] w fun e w' => (∃ g, e = .returned (.pointer (some ⟨g, 0, none⟩)) ∧ RdAt w' w.heap.size g b 0 0) ∧ Below w.heap.size w w' := by
  have HA := Lib.hid hA
  have HAc := Lib.hid hAc
  clear hA hAc
  generalize hN : b.length = N at *
  have HN := Lib.hid hN
  clear hN
  go_enter Try.func29, Try.ntmps29
  go_wp2_with (at_builtin; refine app_own rfl (.const (.slice none 0 0)) (.tmp 3) rfl (.slice none 0 0) [] b A c N rfl rfl HN.out HAc.out (OwnsY.nil w w.heap.size) HA.out (Nat.le_refl _) (by simp; omega) ?_; intro v1 w1 g1 g2; obtain ⟨A1, c1, e1, l1, l2, l3, l4, l5⟩ := OwnsY.lies g1; subst e1; have HL := Lib.hid l3; have HB := Lib.hid g2; have HL4 := Lib.hid l4; have HL5 := Lib.hid l5; clear g1 g2 l3 l4 l5)
  go_ret
  have hal := (Below.refl w1.heap.size w1).alloc (Nat.le_refl _) (.cells #[.slice A1 ([] ++ b).length c1, .int .i64 0, .int .i64 0] 118)
  have hz := HB.out.size
  have hn := HN.out
  refine ⟨⟨w1.heap.size, rfl, A1, c1, Box.new w1 _ _, Nat.zero_le _, l1, l2, HL4.out, hz, HL.out.below hal, fun ad e => ?_, hb, by omega⟩, HB.out.trans (hal.mono hz)⟩
  obtain ⟨g, rfl, h1, h2⟩ := HL5.out ad e
  exact ⟨h1, h2⟩
set_option maxRecDepth 100000 in
theorem rd_Err {w : World} {B g k : Nat} {b : List Int} {e0 : Int} (h : RdAt w B g b k e0) : Calls Try.prog 33 #[.pointer (some ⟨g, 0, none⟩)] w fun e w' => e = .returned (.int .i64 e0) ∧ w = w' := by
  obtain ⟨A, c, c0, c1, c2, -, -⟩ := h.cells
  clear h
  go_enter Try.func33, Try.ntmps33
  go_wp2
  go_ret
  exact ⟨rfl, rfl⟩
set_option maxRecDepth 100000 in
theorem rd_At {w : World} {B g k : Nat} {b : List Int} {e0 : Int} (h : RdAt w B g b k e0) : Calls Try.prog 31 #[.pointer (some ⟨g, 0, none⟩)] w fun e w' => e = .returned (.int .i64 (k : Nat)) ∧ w = w' := by
  obtain ⟨A, c, c0, c1, c2, -, -⟩ := h.cells
  clear h
  go_enter Try.func31, Try.ntmps31
  go_wp2
  go_ret
  exact ⟨rfl, rfl⟩
set_option maxRecDepth 100000 in
theorem rd_Left {w : World} {B g k : Nat} {b : List Int} {e0 : Int} (h : RdAt w B g b k e0) : Calls Try.prog 32 #[.pointer (some ⟨g, 0, none⟩)] w fun e w' => e = .returned (.int .i64 ((b.length - k : Nat) : Int)) ∧ ∃ n, w' = w.drewN n := by
  obtain ⟨A, c, c0, c1, c2, -, -⟩ := h.cells
  obtain ⟨-, -, h1, h2, -⟩ := h.lt
  clear h
  have hs : ((b.length - k : Nat) : Int) = (b.length : Int) - (k : Int) := by omega
  rw [hs]
  clear hs
  generalize b.length = N at *
  have hw : wrap64 ((N : Int) - (k : Int)) = (N : Int) - (k : Int) := by unfold wrap64; omega
  go_enter Try.func32, Try.ntmps32
  go_wp2
  go_quiet (fail)
  go_wp2
  go_ret
  exact ⟨by first | rfl | (simp; done) | (apply ret1i; exact hw), _, rfl⟩
theorem rd_Err_nil (w : World) : Calls Try.prog 33 #[.pointer none] w fun e w' => e = .returned (.int .i64 7) ∧ w = w' := by
  go_enter Try.func33, Try.ntmps33
  go_wp2
  go_ret
  exact ⟨rfl, rfl⟩
/-- which error stays -/
def failE (e x : Int) : Int := if e ≠ 0 then e else if x = 0 then 211 else x
set_option maxRecDepth 100000 in
set_option maxHeartbeats 2000000 in
theorem rd_Fail {w : World} {B g k : Nat} {b : List Int} {e0 : Int} (h : RdAt w B g b k e0) (x : Int) : Calls Try.prog 83 #[.pointer (some ⟨g, 0, none⟩), .int .i64 x] w fun e w' => e = .returned (.tuple #[]) ∧ RdAt w' B g b k (failE e0 x) ∧ Wr g w w' := by
  have KE := Lib.hid (rd_Err h)
  have HR := Lib.hid h
  obtain ⟨A, c, c0, c1, c2, f1, f2⟩ := h.cells
  clear h
  by_cases he : e0 = 0
  · subst he
    by_cases hx : x = 0
    · subst hx
      have HF : Hid (failE 0 0 = 211) := rfl
      go_enter Try.func83, Try.ntmps83
      go_wp2_with fail
      refine (KE.out).mono ?_
      rintro e w' ⟨rfl, rfl⟩
      go_wp2
      go_end0
      rw [HF.out]
      exact ⟨rfl, HR.out.err 211, Wr.set _ _ _ _⟩
    · have HF : Hid (failE 0 x = x) := by (show _ = _; unfold failE; rw [if_neg (by simp), if_neg hx])
      have hxb : (x == 0) = false := by simpa using hx
      clear hx
      go_enter Try.func83, Try.ntmps83
      go_wp2_with fail
      refine (KE.out).mono ?_
      rintro e w' ⟨rfl, rfl⟩
      go_wp2
      go_end0
      rw [HF.out]
      exact ⟨rfl, HR.out.err x, Wr.set _ _ _ _⟩
  · have HF : Hid (failE e0 x = e0) := by (show _ = _; unfold failE; rw [if_pos he])
    have heb : (e0 != 0) = true := by simpa using he
    clear he
    go_enter Try.func83, Try.ntmps83
    go_wp2_with fail
    refine (KE.out).mono ?_
    rintro e w' ⟨rfl, rfl⟩
    go_wp2
    first | go_end0 | refine bodyPost_ret (results_none rfl _ _ _) rfl ?_
    rw [HF.out]
    exact ⟨rfl, HR.out, Wr.refl _ _⟩
theorem or_byte (h l : Int) (h0 : 0 ≤ h) (h1 : h < 72057594037927936) (l0 : 0 ≤ l) (l1 : l < 256) : bits .or .u64 (h * 256) l = h * 256 + l := by
  rw [u64_or _ _ (by omega) (by omega) (by omega) (by omega)]
  obtain ⟨h, rfl⟩ := Int.eq_ofNat_of_zero_le h0
  obtain ⟨l, rfl⟩ := Int.eq_ofNat_of_zero_le l0
  have e : ((h : Int) * 256).toNat = 2 ^ 8 * h := by omega
  have e2 : ((l : Int)).toNat = l := by omega
  rw [e, e2, ← Nat.two_pow_add_eq_or_of_lt (by omega : l < 2 ^ 8)]
  omega
theorem joinN_take {y : List Int} (hy : byt y) {k : Nat} (hk : k < y.length) : (joinN (y.take (k + 1)) : Int) = joinN (y.take k) * 256 + y.getD k 0 := by
  rw [take_get y hk, joinN_snoc]
  have := hy.getD k
  omega
set_option maxRecDepth 100000 in
set_option maxHeartbeats 2000000 in
theorem bin_joined (y : List Int) (A : Option Addr) (c B : Nat) (w : World) (hA : LiesY w B A y) (hy : byt y) (hl : y.length ≤ 8) :
    Calls Try.prog 169 #[.slice A y.length c] w fun e w' => e = .returned (.int .u64 (joinN y : Nat)) ∧ w = w' := by
  have HA := Lib.hid hA
  have HS := Lib.hid (fun k (hk : k < y.length) => joinN_take hy hk)
  have HD := Lib.hid (fun k => hy.getD k)
  have HLT : Hid (∀ k, k < y.length → joinN (y.take k) < 72057594037927936) := fun k hk => by
    have h1 := joinN_lt _ (y.take k) rfl (hy.take k)
    have h2 : 256 ^ (y.take k).length ≤ 256 ^ 7 := Nat.pow_le_pow_right (by omega) (by rw [List.length_take]; omega)
    omega
  have HE : Hid (joinN (y.take y.length) = joinN y) := by (show _ = _; rw [List.take_of_length_le (Nat.le_refl _)])
  clear hA hy
  generalize joinN y = R at *
  generalize hM : y.length = M at *
  have HM := Lib.hid hM
  clear hM
  go_enter Try.func169, Try.ntmps169
  go_wp2
  go_loop [3, 8] (fun nv i => ∃ k : Nat, k ≤ M ∧ i = .int .i64 k ∧ nv = .int .u64 (joinN (y.take k) : Nat)) (fun _ i => M - (intOf i).toNat)
  case atStart => exact ⟨0, by omega, rfl, rfl⟩
  case round =>
    obtain ⟨k, hk, rfl, rfl⟩ := hrel
    by_cases hkM : k < M
    · have hkg : (k : Int) < (M : Int) := by omega
      obtain ⟨ad, eA, hab, hc⟩ := HA.out (by have := HM.out; omega)
      subst eA
      have c0 := hc k (by have := HM.out; omega)
      have HS1 := Lib.hid (HS.out k hkM)
      obtain ⟨d0, d1⟩ := HD.out k
      have hlt := HLT.out k hkM
      clear hc HS HD HLT HE
      generalize y.getD k 0 = d at *
      generalize joinN (y.take k) = J at *
      have hor := or_byte (J : Int) d (by omega) (by omega) d0 d1
      go_wp2
      exact ⟨⟨k + 1, by omega, by go_num, by rw [HS1.out]⟩, by first | (simp [intOf]; done) | (simp [intOf]; omega)⟩
    · obtain rfl : k = M := by omega
      go_wp2
      go_ret
      rw [HE.out]
      exact ⟨rfl, rfl⟩
theorem bin_least (s : Nat) (h1 : 1 ≤ s) (h8 : s ≤ 8) (w : World) : Calls Try.prog 170 #[.int .i64 s] w fun e w' => e = .returned (.int .u64 (leastN s : Nat)) ∧ w = w' := by
  have : s = 1 ∨ s = 2 ∨ s = 3 ∨ s = 4 ∨ s = 5 ∨ s = 6 ∨ s = 7 ∨ s = 8 := by omega
  rcases this with rfl | rfl | rfl | rfl | rfl | rfl | rfl | rfl
  all_goals
    go_enter Try.func170, Try.ntmps170
    go_wp2
    go_ret
    exact ⟨by simp [leastN], rfl⟩
end Go.Proofs.Ytkfmebdpfjjkjaa
