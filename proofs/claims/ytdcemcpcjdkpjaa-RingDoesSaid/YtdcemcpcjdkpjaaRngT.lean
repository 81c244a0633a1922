/- RngA RngB RngC RngD RngE RngF RngG RngH RngI -/
import Derived.Test.YtdcemcpcjdkpjaaPatS
import Derived.Test.YtdcemcpcjdkpjaaVecT
import Derived.Lib.SliceRun
/-! Layer 17 (ring): events in the memory; a vector of its own. -/
namespace Go.Proofs.Ytdcemcpcjdkpjaa
open Go.RowKit
set_option linter.unusedVariables false
set_option linter.unusedSimpArgs false

/-- an event -/
structure SN where
  id : Int
  a : Option Addr
  c : Nat
  x : List Int
  p : Int
  q : Int
  s : Bool
def sn0 : SN := ⟨0, none, 0, [], 0, 0, false⟩
def snC (n : SN) : List Value := [.int .i64 n.id, .slice n.a n.x.length n.c, .int .i64 n.p, .int .i64 n.q, .bool n.s]
def snL (L : List SN) : List Value := L.flatMap snC
theorem snC_len (n : SN) : (snC n).length = 5 := rfl
theorem snL_len (L : List SN) : (snL L).length = L.length * 5 := flat_len _ 5 snC_len L
theorem info_seen : (Try.prog.info? 34).map (fun i => (i.zero, i.size, i.bytes)) = some (some (.agg #[.int .i64 0, .slice none 0 0, .int .i64 0, .int .i64 0, .bool false]), 5, 56) := by kernel_rfl
/-- events in the memory, five cells each, with their vectors -/
def LiesSs (w : World) (B : Nat) (A : Option Addr) (L : List SN) : Prop :=
  (0 < L.length → ∃ ad : Addr, A = some ad ∧ ad.block < B ∧ ∀ k, k < L.length → ∀ j, j < 5 → w.cell? (ad.add (k * 5 + j)) = (snC (L.getD k sn0))[j]?) ∧ ∀ n ∈ L, Lies w B n.a n.x
/-- a vector of its own behind what there was -/
def NewX (w w' : World) (A : Option Addr) (x : List Int) : Prop := 0 < x.length → ∃ g, A = some ⟨g, 0, none⟩ ∧ w.heap.size ≤ g ∧ OwnI w' g x
/-- append of nothing to nothing -/
theorem app_none {wr : World} {ops : Array Oper} {rest : List Oper} {o : Oper} {a : Act} {Q : Exit → Act → World → Prop} (hgd : o.guard = none) (s x : Operand)
    (ho : o.op = .call { callee := .builtin .append, args := #[s, x], argTypes := #[30, 30] })
    (b : Nat) (ad : Addr) (c : Nat) (hs : a.eval s = .slice (some ⟨b, 0, none⟩) 0 0) (hx : a.eval x = .slice (some ad) 0 c)
    (h : wpList Try.prog ops Q rest (a.put o.dst (.slice (some ⟨b, 0, none⟩) 0 0)) wr) :
    wpList Try.prog ops Q (o :: rest) a wr := by
  obtain ⟨i0, hi, hz0, hz1, hz2⟩ := info_parts infoI
  refine wpList_append_arg wr hgd s x 30 ho 3 i0 (.int .i64 0) 1 8 Try.underlying30 hi hz0 hz1 hz2 rfl (by decide) b 0 0 0 [] hs rfl (fun j u h => by simp at h) ad 0 c [] hx rfl (fun j u h => by simp at h) (fun u h => by cases h) (fun _ j h => by simp at h) (by unfold maxLen; omega) (by omega) (fun _ => ?_) (fun h => absurd h (by omega))
  exact h
set_option maxRecDepth 100000 in
set_option maxHeartbeats 4000000 in
theorem ring_clone (A : Option Addr) (x : List Int) (c B : Nat) (w : World) (hx : Lies w B A x) (hn : x.length ≤ 1000) (hB : B ≤ w.heap.size) : Calls Try.prog 154 #[.slice A x.length c] w fun e w' => ∃ A' c', e = .returned (.slice A' x.length c') ∧ (A' = none → c' = 0) ∧ NewX w w' A' x ∧ Below w.heap.size w w' := by
  have q25 : ∀ (w : World) (a : Option Addr) (n c n' c' : Nat), (binOp .eql 30 (.slice a n c) (.slice none n' c')).run Try.prog w = .ok (.bool a.isNone) w := fun w a n c n' c' => Lib.run_eql_slice_nil w _ _ a n c n' c' Try.underlying30
  rcases Nat.eq_zero_or_pos x.length with h0 | h0
  · have hN : ∀ w' A', NewX w w' A' x := fun w' A' h => absurd h (by omega)
    have HN := Lib.hid hN
    rw [h0]
    clear hN h0 hx
    cases A with
    | none =>
      go_enter Try.func154, Try.ntmps154
      go_wp2
      go_ret
      exact ⟨none, 0, by simp, fun _ => rfl, HN.out _ _, Below.refl _ _⟩
    | some ad =>
      go_enter Try.func154, Try.ntmps154
      go_wp2_with (at_builtin; refine app_none rfl (.tmp 5) (.tmp 6) rfl _ ad c rfl rfl ?_)
      go_ret
      exact ⟨_, 0, rfl, (fun h => by cases h), HN.out _ _, (Below.refl w.heap.size w).alloc (Nat.le_refl _) (.cells #[] 3)⟩
  · obtain ⟨ad, eA, hab, hc⟩ := hx h0
    subst eA
    have hsz : ad.block < w.heap.size := by omega
    have HC : Hid (∀ j, j < x.length → (w.alloc (.cells #[] 3)).cell? (ad.add j) = some (.int .i64 (x.getD j 0))) := fun j hj => by
      rw [← hc j hj]
      exact ((Below.refl w.heap.size w).alloc (Nat.le_refl _) (.cells #[] 3)).cell (by rw [add_block]; exact hsz)
    clear hc hx
    obtain ⟨n, hnn⟩ : ∃ n, n = x.length := ⟨_, rfl⟩
    have HN := Lib.hid hnn.symm
    rw [← hnn] at hn h0 HC ⊢
    clear hnn
    go_enter Try.func154, Try.ntmps154
    go_wp2_with (at_builtin; refine app_copy rfl (.tmp 5) (.tmp 6) rfl _ ad x n c HN.out rfl rfl (fun j hj => HC.out j (by have := HN.out; omega)) h0 hn ?_; intro g c' w' hc' ho hg hb; have HO := Lib.hid ho; have HB := Lib.hid hb; clear ho hb)
    go_ret
    rw [alloc_size'] at hg
    exact ⟨some ⟨g, 0, none⟩, c', by simp, (fun h => by cases h), (fun _ => ⟨g, rfl, by omega, HO.out⟩), (((Below.refl w.heap.size w).alloc (Nat.le_refl _) (.cells #[] 3)).trans (HB.out.mono (by rw [alloc_size']; omega)))⟩
end Go.Proofs.Ytdcemcpcjdkpjaa
/-! Layer 17 (ring): vector, own. -/
namespace Go.Proofs.Ytdcemcpcjdkpjaa
open Go.RowKit
set_option linter.unusedVariables false
set_option linter.unusedSimpArgs false

set_option maxRecDepth 100000 in
set_option maxHeartbeats 4000000 in
theorem ring_vector (id p q : Int) (s : Bool) (A : Option Addr) (x : List Int) (c B : Nat) (w : World) (hx : Lies w B A x) (hn : x.length ≤ 1000) (hB : B ≤ w.heap.size) : Calls Try.prog 90 #[.agg #[.int .i64 id, .slice A x.length c, .int .i64 p, .int .i64 q, .bool s]] w fun e w' => ∃ A' c', e = .returned (.slice A' x.length c') ∧ (A' = none → c' = 0) ∧ NewX w w' A' x ∧ Below w.heap.size w w' := by
  have HX := Lib.hid ((Kpc.start w).alloc #[.int .i64 id, .slice A x.length c, .int .i64 p, .int .i64 q, .bool s] 34)
  obtain ⟨y0, y1, y2, y3, y4⟩ := box5 HX.out.head
  have KC := Lib.hid (fun W (h : Below w.heap.size w W) => ring_clone A x c B W (hx.below (h.mono hB)) hn (Nat.le_trans hB h.size))
  have HB1 := Lib.hid HX.out.2.1
  have HS : Hid (w.heap.size ≤ (w.alloc (.cells #[.int .i64 id, .slice A x.length c, .int .i64 p, .int .i64 q, .bool s] 34)).heap.size) := HX.out.2.1.size
  have HNX : Hid (∀ W W' A', w.heap.size ≤ W.heap.size → NewX W W' A' x → NewX w W' A' x) := fun W W' A' h hN h0 => by
    obtain ⟨g, e, hg, ho⟩ := hN h0
    exact ⟨g, e, Nat.le_trans h hg, ho⟩
  clear hx
  generalize x.length = n at *
  go_enter Try.func90, Try.ntmps90
  go_wp2_with fail
  refine (KC.out _ HB1.out).mono ?_
  rintro e w1 ⟨A', c', rfl, h1, h2, h3⟩
  have HN := Lib.hid (HNX.out _ _ _ HS.out h2)
  have HF : Hid (Below w.heap.size w w1) := HB1.out.trans (h3.mono HS.out)
  go_wp2
  go_ret
  exact ⟨A', c', by simp, h1, HN.out, HF.out⟩
set_option maxRecDepth 100000 in
set_option maxHeartbeats 4000000 in
theorem ring_own (id p q : Int) (s : Bool) (A : Option Addr) (x : List Int) (c B : Nat) (w : World) (hx : Lies w B A x) (hn : x.length ≤ 1000) (hB : B ≤ w.heap.size) : Calls Try.prog 83 #[.agg #[.int .i64 id, .slice A x.length c, .int .i64 p, .int .i64 q, .bool s]] w fun e w' => ∃ A' c', e = .returned (.agg #[.int .i64 id, .slice A' x.length c', .int .i64 p, .int .i64 q, .bool s]) ∧ (A' = none → c' = 0) ∧ NewX w w' A' x ∧ Below w.heap.size w w' := by
  have HX := Lib.hid (((Kpc.start w).alloc #[.int .i64 id, .slice A x.length c, .int .i64 p, .int .i64 q, .bool s] 34).alloc #[.int .i64 0, .slice none 0 0, .int .i64 0, .int .i64 0, .bool false] 34)
  obtain ⟨y0, y1, y2, y3, y4⟩ := box5 HX.out.tail.head
  have KC := Lib.hid (fun W (h : Below w.heap.size w W) => ring_vector id p q s A x c B W (hx.below (h.mono hB)) hn (Nat.le_trans hB h.size))
  have HB1 := Lib.hid HX.out.2.1
  have HS : Hid (((w.alloc (.cells #[.int .i64 id, .slice A x.length c, .int .i64 p, .int .i64 q, .bool s] 34)).alloc (.cells #[.int .i64 0, .slice none 0 0, .int .i64 0, .int .i64 0, .bool false] 34)).heap.size = w.heap.size + 2) := by
    show _ = _
    rw [alloc_size', alloc_size']
  have HNX : Hid (∀ W W' A', w.heap.size + 2 ≤ W.heap.size → NewX W W' A' x → ∀ u u0 u1 u2 u3 u4, NewX w ((((((W'.setCell ⟨w.heap.size, 1, none⟩ u).setCell ⟨w.heap.size + 1, 0, none⟩ u0).setCell ⟨w.heap.size + 1, 1, none⟩ u1).setCell ⟨w.heap.size + 1, 2, none⟩ u2).setCell ⟨w.heap.size + 1, 3, none⟩ u3).setCell ⟨w.heap.size + 1, 4, none⟩ u4) A' x) := fun W W' A' h hN u u0 u1 u2 u3 u4 h0 => by
    obtain ⟨g, e, hg, ho⟩ := hN h0
    have f : ∀ j, (⟨w.heap.size + 1, j, none⟩ : Addr).block ≠ g := fun j => by show w.heap.size + 1 ≠ g; omega
    exact ⟨g, e, by omega, (((((ho.off (p := ⟨w.heap.size, 1, none⟩) (by show w.heap.size ≠ g; omega) u).off (f 0) u0).off (f 1) u1).off (f 2) u2).off (f 3) u3).off (f 4) u4⟩
  clear hx
  generalize x.length = n at *
  go_enter Try.func83, Try.ntmps83
  go_wp2_with fail
  refine (KC.out _ HB1.out).mono ?_
  rintro e w1 ⟨A', c', rfl, h1, h2, h3⟩
  have HK := Lib.hid (HX.out.below h3)
  have HN := Lib.hid (HNX.out _ _ _ (Nat.le_of_eq HS.out.symm) h2)
  have HF : Hid (Below w.heap.size w w1) := HB1.out.trans (h3.mono (by rw [HS.out]; omega))
  obtain ⟨v0, v1, v2, v3, v4⟩ := box5 HK.out.tail.head
  obtain ⟨z0, z1, z2, z3, z4⟩ := box5 HK.out.head
  have f1 := HK.out.tail.head.free 1
  have k0 := HK.out.head.free 0
  have k1 := HK.out.head.free 1
  have k2 := HK.out.head.free 2
  have k3 := HK.out.head.free 3
  have k4 := HK.out.head.free 4
  rw [alloc_size'] at z0 z1 z2 z3 z4 k0 k1 k2 k3 k4
  clear h2 h3 y0 y1 y2 y3 y4
  go_wp2
  refine bodyPost_ret (v := .agg #[.int .i64 id, .slice A' n c', .int .i64 p, .int .i64 q, .bool s]) ?_ rfl ⟨A', c', rfl, h1, HN.out _ _ _ _ _ _, ?_⟩
  · simp only [results, show Try.f83.results = #[.cell 2 34] from rfl]
    go_simp
  · have f : ∀ j, w.heap.size ≤ (⟨w.heap.size + 1, j, none⟩ : Addr).block := fun j => Nat.le_succ _
    exact (((((HF.out.setCell (p := ⟨w.heap.size, 1, none⟩) (Nat.le_refl _) _).setCell (f 0) _).setCell (f 1) _).setCell (f 2) _).setCell (f 3) _).setCell (f 4) _
end Go.Proofs.Ytdcemcpcjdkpjaa
/-! Layer 17's reference: Same, SameAll, Much. -/
namespace Go.Proofs.Ytdcemcpcjdkpjaa
open Go.RowKit
set_option linter.unusedVariables false
set_option linter.unusedSimpArgs false

set_option maxRecDepth 100000 in
set_option maxHeartbeats 4000000 in
/-- two events that are the same -/
theorem ref_Same17 (id p q : Int) (s : Bool) (A A2 : Option Addr) (x : List Int) (c c2 B : Nat) (w : World) (hx : Lies w B A x) (hx2 : Lies w B A2 x) (hn : x.length ≤ 1000) (hB : B ≤ w.heap.size) : Calls Try.prog 21 #[.agg #[.int .i64 id, .slice A x.length c, .int .i64 p, .int .i64 q, .bool s], .agg #[.int .i64 id, .slice A2 x.length c2, .int .i64 p, .int .i64 q, .bool s]] w fun e w' => e = .returned (.bool true) ∧ Below w.heap.size w w' := by
  have HX := Lib.hid (((Kpc.start w).alloc #[.int .i64 id, .slice A x.length c, .int .i64 p, .int .i64 q, .bool s] 34).alloc #[.int .i64 id, .slice A2 x.length c2, .int .i64 p, .int .i64 q, .bool s] 34)
  obtain ⟨y0, y1, y2, y3, y4⟩ := box5 HX.out.tail.head
  obtain ⟨z0, z1, z2, z3, z4⟩ := box5 HX.out.head
  rw [alloc_size'] at z0 z1 z2 z3 z4
  have KC := Lib.hid (fun W (h : Below w.heap.size w W) => ref_same1 A A2 x x c c2 B W (hx.below (h.mono hB)) (hx2.below (h.mono hB)) (by omega) (by omega))
  have HB1 := Lib.hid HX.out.2.1
  rw [decide_eq_true rfl] at KC
  clear hx hx2
  have e1 : (id == id) = true := by simp
  have e2 : (p == p) = true := by simp
  have e3 : (q == q) = true := by simp
  have e4 : (s == s) = true := by simp
  generalize x.length = n at *
  go_enter Try.func21, Try.ntmps21
  go_wp2_with fail
  refine (KC.out _ HB1.out).mono ?_
  rintro e w1 ⟨rfl, n5, rfl⟩
  have HF : Hid (Below w.heap.size w _) := below_drewN2 HB1.out n5
  go_wp2
  go_ret
  exact ⟨by simp, HF.out⟩
def sgS (n : SN) : Int × List Int × Int × Int × Bool := (n.id, n.x, n.p, n.q, n.s)
theorem sg_parts {n m : SN} (h : sgS n = sgS m) : n.id = m.id ∧ n.x = m.x ∧ n.p = m.p ∧ n.q = m.q ∧ n.s = m.s := by
  unfold sgS at h
  simp only [Prod.mk.injEq] at h
  exact h
theorem LiesSs.below {w w' : World} {B : Nat} {A : Option Addr} {L : List SN} (h : LiesSs w B A L) (hb : Below B w w') : LiesSs w' B A L :=
  ⟨fun h0 => by
    obtain ⟨ad, e, hB, hc⟩ := h.1 h0
    exact ⟨ad, e, hB, fun k hk j hj => (hb.cell (by rw [add_block]; exact hB)).trans (hc k hk j hj)⟩, fun n hn => (h.2 n hn).below hb⟩
theorem LiesSs.mono {w : World} {B B' : Nat} {A : Option Addr} {L : List SN} (h : LiesSs w B A L) (hB : B ≤ B') : LiesSs w B' A L :=
  ⟨fun h0 => by
    obtain ⟨ad, e, hb, hc⟩ := h.1 h0
    exact ⟨ad, e, Nat.lt_of_lt_of_le hb hB, hc⟩, fun n hn => (h.2 n hn).mono hB⟩
theorem mem_sn {L : List SN} {k : Nat} (hk : k < L.length) : L.getD k sn0 ∈ L := by
  rw [List.getD_eq_getElem?_getD, List.getElem?_eq_getElem hk]
  exact List.getElem_mem hk
theorem LiesSs.at {w : World} {B : Nat} {A : Option Addr} {L : List SN} (h : LiesSs w B A L) {k : Nat} (hk : k < L.length) :
    ∃ ad : Addr, A = some ad ∧ ad.block < B ∧ w.cell? (ad.add (k * 5)) = some (.int .i64 (L.getD k sn0).id) ∧ w.cell? ⟨(ad.add (k * 5)).block, (ad.add (k * 5)).off + 1, none⟩ = some (.slice (L.getD k sn0).a (L.getD k sn0).x.length (L.getD k sn0).c) ∧ w.cell? ⟨(ad.add (k * 5)).block, (ad.add (k * 5)).off + 2, none⟩ = some (.int .i64 (L.getD k sn0).p) ∧ w.cell? ⟨(ad.add (k * 5)).block, (ad.add (k * 5)).off + 3, none⟩ = some (.int .i64 (L.getD k sn0).q) ∧ w.cell? ⟨(ad.add (k * 5)).block, (ad.add (k * 5)).off + 4, none⟩ = some (.bool (L.getD k sn0).s) := by
  obtain ⟨ad, e, hb, hc⟩ := h.1 (by omega)
  exact ⟨ad, e, hb, hc k hk 0 (by omega), by rw [fldT _ _ _ (by omega)]; exact hc k hk 1 (by omega), by rw [fldT _ _ _ (by omega)]; exact hc k hk 2 (by omega), by rw [fldT _ _ _ (by omega)]; exact hc k hk 3 (by omega), by rw [fldT _ _ _ (by omega)]; exact hc k hk 4 (by omega)⟩
def muchS (L : List SN) (m : Int) : Bool := decide (m < (L.length : Int) ∨ ∃ n ∈ L, 20 < n.x.length)
set_option maxRecDepth 100000 in
set_option maxHeartbeats 4000000 in
theorem ref_Much17 (L : List SN) (A : Option Addr) (c B : Nat) (m : Int) (w : World) (hl : (L.length : Int) ≤ 9223372036854775807) (hA : LiesSs w B A L) (hB : B ≤ w.heap.size) :
    Calls Try.prog 14 #[.slice A L.length c, .int .i64 m] w fun e w' => e = .returned (.bool (muchS L m)) ∧ Below w.heap.size w w' := by
  by_cases h30 : m < (L.length : Int)
  · have hv : muchS L m = true := decide_eq_true (.inl h30)
    rw [hv]
    clear hv hA
    generalize L.length = M at *
    go_enter Try.func14, Try.ntmps14
    go_wp2
    go_ret
    exact ⟨rfl, Below.refl _ _⟩
  · have HA := Lib.hid (fun W (h : Below w.heap.size w W) => hA.below (h.mono hB))
    have HY : Hid (∀ j, j < L.length → 20 < (L.getD j sn0).x.length → muchS L m = true) := fun j hj h => decide_eq_true (.inr ⟨_, mem_sn hj, h⟩)
    have HN : Hid ((∀ j, j < L.length → (L.getD j sn0).x.length ≤ 20) → muchS L m = false) := fun h => decide_eq_false (fun h2 => by
      rcases h2 with h2 | ⟨n, hn, h2⟩
      · exact h30 h2
      · obtain ⟨j, hj, rfl⟩ := List.mem_iff_getElem.1 hn
        have := h j hj
        rw [List.getD_eq_getElem?_getD, List.getElem?_eq_getElem hj, Option.getD_some] at this
        omega)
    clear hA
    obtain ⟨M, hM⟩ : ∃ M, M = L.length := ⟨_, rfl⟩
    have HM := Lib.hid hM
    rw [← hM] at hl h30 ⊢
    clear hM
    generalize muchS L m = mv at *
    go_enter Try.func14, Try.ntmps14
    go_wp2
    go_loopw [5] (fun i wr => ∃ k : Nat, k ≤ M ∧ i = .int .i64 k ∧ Hid (∀ j, j < k → (L.getD j sn0).x.length ≤ 20) ∧ Hid (Below w.heap.size w wr)) (fun i _ => M - (intOf i).toNat)
    case atStart => exact ⟨0, by omega, rfl, (fun j hj => absurd hj (by omega)), Below.refl _ _⟩
    case round =>
      obtain ⟨k, hk, rfl, HF, HB⟩ := hrel
      by_cases hlt : k < M
      · have hlg : (k : Int) < (M : Int) := by omega
        have hkT : k < L.length := by have := HM.out; omega
        obtain ⟨ad, eA, hab, c0, c1, c2, c3, c4⟩ := (HA.out wr HB.out).at hkT
        subst eA
        have HV := Lib.hid (HY.out k hkT)
        have HF2 : Hid ((L.getD k sn0).x.length ≤ 20 → ∀ j, j < k + 1 → (L.getD j sn0).x.length ≤ 20) := fun h j hj => by
          by_cases e : j = k
          · rw [e]; exact h
          · exact HF.out j (by omega)
        generalize (L.getD k sn0).x.length = xl at *
        by_cases h20 : 20 < xl
        · have h20g : (20 : Int) < (xl : Int) := by omega
          have HV2 := Lib.hid (HV.out h20)
          go_wp2
          go_ret
          rw [HV2.out]
          exact ⟨rfl, HB.out⟩
        · have h20g : ¬ (20 : Int) < (xl : Int) := by omega
          have HF3 := Lib.hid (HF2.out (by omega))
          go_wp2
          exact ⟨⟨k + 1, by omega, by go_num, HF3.out, HB.out⟩, by first | (simp [intOf]; done) | (simp [intOf]; omega)⟩
      · obtain rfl : k = M := by omega
        have HV : Hid (mv = false) := HN.out (by rw [← HM.out]; exact HF.out)
        go_wp2
        go_ret
        rw [HV.out]
        exact ⟨rfl, HB.out⟩
set_option maxRecDepth 100000 in
set_option maxHeartbeats 4000000 in
/-- rows of events that are the same -/
theorem ref_SameAll17 (L R : List SN) (A A2 : Option Addr) (c c2 B : Nat) (w : World) (hl : (L.length : Int) ≤ 9223372036854775807) (h20 : ∀ n ∈ L, n.x.length ≤ 1000) (hs : L.map sgS = R.map sgS) (hA : LiesSs w B A L) (hA2 : LiesSs w B A2 R) (hB : B ≤ w.heap.size) :
    Calls Try.prog 22 #[.slice A L.length c, .slice A2 R.length c2] w fun e w' => e = .returned (.bool true) ∧ Below w.heap.size w w' := by
  have hlen : L.length = R.length := by simpa using congrArg List.length hs
  have HSG : Hid (∀ k, k < L.length → sgS (L.getD k sn0) = sgS (R.getD k sn0)) := fun k hk => by
    have h1 : (L.map sgS)[k]? = (R.map sgS)[k]? := by rw [hs]
    rw [List.getElem?_map, List.getElem?_map, List.getElem?_eq_getElem hk, List.getElem?_eq_getElem (by omega)] at h1
    rw [List.getD_eq_getElem?_getD, List.getD_eq_getElem?_getD, List.getElem?_eq_getElem hk, List.getElem?_eq_getElem (by omega)]
    simpa using h1
  have HA := Lib.hid (fun W (h : Below w.heap.size w W) => hA.below (h.mono hB))
  have HA2 := Lib.hid (fun W (h : Below w.heap.size w W) => hA2.below (h.mono hB))
  have H20 := Lib.hid (fun k (hk : k < L.length) => h20 _ (mem_sn hk))
  have HR : Hid (∀ k, k < L.length → k < R.length) := fun k hk => by omega
  rw [← hlen]
  clear hA hA2 hs h20
  obtain ⟨M, hM⟩ : ∃ M, M = L.length := ⟨_, rfl⟩
  have HM := Lib.hid hM
  rw [← hM] at hl ⊢
  clear hM hlen
  have e0 : ((M : Int) == (M : Int)) = true := by simp
  go_enter Try.func22, Try.ntmps22
  go_wp2
  go_loopw [5] (fun i wr => ∃ k : Nat, k ≤ M ∧ i = .int .i64 k ∧ Hid (Below w.heap.size w wr)) (fun i _ => M - (intOf i).toNat)
  case atStart => exact ⟨0, by omega, rfl, Below.refl _ _⟩
  case round =>
    obtain ⟨k, hk, rfl, HB⟩ := hrel
    by_cases hlt : k < M
    · have hlg : (k : Int) < (M : Int) := by omega
      have hkT : k < L.length := by have := HM.out; omega
      obtain ⟨ad, eA, hab, c0, c1, c2, c3, c4⟩ := (HA.out wr HB.out).at hkT
      obtain ⟨ad2, eA2, hab2, d0, d1, d2, d3, d4⟩ := (HA2.out wr HB.out).at (HR.out k hkT)
      subst eA
      subst eA2
      obtain ⟨s1, s2, s3, s4, s5⟩ := sg_parts (HSG.out k hkT)
      have KS := Lib.hid (fun W (h : Below w.heap.size w W) => ref_Same17 (L.getD k sn0).id (L.getD k sn0).p (L.getD k sn0).q (L.getD k sn0).s (L.getD k sn0).a (R.getD k sn0).a (L.getD k sn0).x (L.getD k sn0).c (R.getD k sn0).c B W ((HA.out W h).2 _ (mem_sn hkT)) (by rw [s2]; exact (HA2.out W h).2 _ (mem_sn (HR.out k hkT))) (H20.out k hkT) (Nat.le_trans hB h.size))
      rw [← s1] at d0
      rw [← s2] at d1
      rw [← s3] at d2
      rw [← s4] at d3
      rw [← s5] at d4
      clear s1 s2 s3 s4 s5
      generalize L.getD k sn0 = n at *
      generalize R.getD k sn0 = m at *
      obtain ⟨i1, a1, cc1, x1, p1, q1, b1⟩ := n
      obtain ⟨i2, a2, cc2, x2, p2, q2, b2⟩ := m
      simp only at *
      generalize x1.length = xl at *
      have HBd : Hid (Below w.heap.size w wr.drew) := HB.out.drew
      go_wp2
      go_still_tail 8, (by kernel_rfl)
      go_wp2_with fail
      refine (KS.out _ HBd.out).mono ?_
      rintro e w3 ⟨rfl, b3⟩
      have HB3 : Hid (Below w.heap.size w w3) := HBd.out.trans (b3.mono HBd.out.size)
      go_wp2
      exact ⟨⟨k + 1, by omega, by go_num, HB3.out⟩, by first | (simp [intOf]; done) | (simp [intOf]; omega)⟩
    · obtain rfl : k = M := by omega
      go_wp2
      go_ret
      exact ⟨rfl, HB.out⟩
end Go.Proofs.Ytdcemcpcjdkpjaa
/-! Layer 17 (ring): New, Len, place. -/
namespace Go.Proofs.Ytdcemcpcjdkpjaa
open Go.RowKit
set_option linter.unusedVariables false
set_option linter.unusedSimpArgs false

theorem madeS (n : Nat) : (madeCells (Value.agg #[.int .i64 0, .slice none 0 0, .int .i64 0, .int .i64 0, .bool false]).cells (n * 5)).toList = snL (List.replicate n sn0) := by
  show (madeCells #[.int .i64 0, .slice none 0 0, .int .i64 0, .int .i64 0, .bool false] (n * 5)).toList = _
  apply List.ext_getElem?
  intro j
  by_cases hj : j < n * 5
  · have h1 : (snL (List.replicate n sn0))[j / 5 * 5 + j % 5]? = (snC sn0)[j % 5]? := flat_get snC 5 snC_len (j % 5) (by omega) (List.replicate n sn0) (j / 5) sn0 (by rw [List.getElem?_replicate, if_pos (by omega)])
    rw [show j / 5 * 5 + j % 5 = j from by omega] at h1
    rw [h1]
    have h2 : j % 5 = 0 ∨ j % 5 = 1 ∨ j % 5 = 2 ∨ j % 5 = 3 ∨ j % 5 = 4 := by omega
    rcases h2 with h2 | h2 | h2 | h2 | h2 <;> simp [madeCells, hj, h2, snC, sn0]
  · have h3 : (snL (List.replicate n sn0)).length = n * 5 := by rw [snL_len, List.length_replicate]
    rw [List.getElem?_eq_none (by omega : (snL (List.replicate n sn0)).length ≤ j)]
    simp [madeCells, hj]
theorem make_seen {wr : World} {ops : Array Oper} {rest : List Oper} {o : Oper} {a : Act} {Q : Exit → Act → World → Prop} (hgd : o.guard = none) (l c : Operand)
    (ho : o.op = Op.makeSlice 22 l c) (n : Nat) (hl : a.eval l = .int .i64 n) (hc : a.eval c = .int .i64 n) (hn : n ≤ 1000)
    (h : ∀ w', Box w' wr.heap.size (snL (List.replicate n sn0)).toArray 34 → Below wr.heap.size wr w' → wpList Try.prog ops Q rest (a.put o.dst (.slice (some ⟨wr.heap.size, 0, none⟩) n n)) w') :
    wpList Try.prog ops Q (o :: rest) a wr := by
  obtain ⟨i0, hi, hz0, hz1, hz2⟩ := info_parts5 info_seen
  refine wpList_make_full wr hgd l c 22 ho wr.heap.size 34 i0 (.agg #[.int .i64 0, .slice none 0 0, .int .i64 0, .int .i64 0, .bool false]) 5 Try.underlying22 hi hz0 hz1 .i64 .i64 n n n hl hc rfl rfl (by rw [hz2]; omega) (by unfold maxLen; omega) (Nat.le_refl _) ?_
  intro w' h1 h2
  refine h w' ?_ ((Below.refl _ _).grown h2 (Nat.le_refl _) (fun k hk => by cases hk))
  rw [madeS] at h1
  rcases h1.2 with ⟨e, _⟩ | ⟨g, cap, cur, e, hb, hh, hnc, hm, hsz, hx⟩
  · cases e
  · cases e
    have : cur = (snL (List.replicate n sn0)).toArray := by
      rw [← hx]
      apply Array.ext'
      simp only [List.toList_toArray]
      rw [List.take_of_length_le (by simp [hsz])]
    subst this
    exact hh
set_option maxRecDepth 100000 in
set_option maxHeartbeats 4000000 in
theorem ring_place (g G n st cnt i : Nat) (w : World) (hb : Box w g #[.slice (some ⟨G, 0, none⟩) n n, .int .i64 st, .int .i64 cnt] 126) (hn : 0 < n) (hn2 : n ≤ 1000) (hst : st ≤ 1000) (hi : i ≤ 1000) :
    Calls Try.prog 85 #[.pointer (some ⟨g, 0, none⟩), .int .i64 i] w fun e w' => e = .returned (.int .i64 (((st + i) % n : Nat) : Int)) ∧ ∃ m, w' = w.drewN m := by
  have y0 := (hb.cell 0).trans rfl
  have y1 := (hb.cell 1).trans rfl
  have hn0 : ((n : Int) == 0) = false := by simp; omega
  have HM : Hid (((st : Int) + (i : Int)).tmod (n : Int) = (((st + i) % n : Nat) : Int)) := by
    show _ = _
    rw [← Int.natCast_add, Int.ofNat_tmod]
  go_enter Try.func85, Try.ntmps85
  go_wp2
  go_quiet (fail)
  go_wp2
  go_ret
  exact ⟨by simp, _, rfl⟩
/-- where the oldest one lies, and how many there are, behind k of them -/
def stK (n k : Nat) : Nat := if k < n then 0 else k % n
def cntK (n k : Nat) : Nat := min k n
theorem place_at {n k i : Nat} (hn : 0 < n) (hi : i < cntK n k) : (stK n k + i) % n = (k - cntK n k + i) % n := by
  unfold stK cntK at *
  by_cases h : k < n
  · rw [if_pos h, show min k n = k from by omega, Nat.sub_self]
  · rw [if_neg h, show min k n = n from by omega, Nat.mod_add_mod, show k + i = k - n + i + n from by omega, Nat.add_mod_right]
def NX (w : World) (b : Nat) (m : SN) : Prop := (m.a = none → m.c = 0) ∧ m.x.length ≤ 1000 ∧ (0 < m.x.length → ∃ h, m.a = some ⟨h, 0, none⟩ ∧ b < h ∧ OwnI w h m.x)
/-- the ring behind k events, of which the i-th was S i -/
def RingAt (w : World) (B g G n : Nat) (S : Nat → Int × List Int × Int × Int × Bool) (k : Nat) : Prop :=
  ∃ P : List SN, P.length = n ∧ Box w g #[.slice (some ⟨G, 0, none⟩) n n, .int .i64 (stK n k : Nat), .int .i64 (cntK n k : Nat)] 126 ∧ Box w G (snL P).toArray 34 ∧ B ≤ G ∧ G < g ∧ (∀ i, i < k → k ≤ i + n → sgS (P.getD (i % n) sn0) = S i) ∧ ∀ m ∈ P, NX w g m
theorem NX.below {w w' : World} {b : Nat} {m : SN} (h : NX w b m) (hb : Below w.heap.size w w') : NX w' b m :=
  ⟨h.1, h.2.1, fun h0 => by
    obtain ⟨q, e, hq, ho⟩ := h.2.2 h0
    exact ⟨q, e, hq, ho.below hb ho.lt⟩⟩
theorem RingAt.below {w w' : World} {B g G n k : Nat} {S : Nat → Int × List Int × Int × Int × Bool} (h : RingAt w B g G n S k) (hb : Below w.heap.size w w') : RingAt w' B g G n S k := by
  obtain ⟨P, h1, h2, h3, h4, h5, h6, h7⟩ := h
  exact ⟨P, h1, h2.below hb h2.lt, h3.below hb h3.lt, h4, h5, h6, fun m hm => (h7 m hm).below hb⟩
set_option maxRecDepth 100000 in
set_option maxHeartbeats 4000000 in
theorem ring_New (n : Nat) (w : World) (S : Nat → Int × List Int × Int × Int × Bool) (h1 : 0 < n) (h2 : n ≤ 256) :
    Calls Try.prog 16 #[.int .i64 n] w fun e w' => ∃ g G, e = .returned (.tuple #[.pointer (some ⟨g, 0, none⟩), .int .i64 0]) ∧ RingAt w' w.heap.size g G n S 0 ∧ Below w.heap.size w w' := by
  have c1 : ¬ (n : Int) < 1 := by omega
  have c2 : ¬ (256 : Int) < (n : Int) := by omega
  have hn3 : n ≤ 1000 := by omega
  have HST : Hid (stK n 0 = 0 ∧ cntK n 0 = 0) := ⟨by unfold stK; rw [if_pos h1], by unfold cntK; omega⟩
  go_enter Try.func16, Try.ntmps16
  go_wp2_with (at_make; refine make_seen rfl (.tmp 10) (.tmp 10) rfl n rfl rfl hn3 ?_; intro w1 hb1 hw1)
  have HB1 := Lib.hid hb1
  have HW1 := Lib.hid hw1
  clear hb1 hw1
  go_ret2
  have hlt := HB1.out.lt
  have hbl := (Below.refl w1.heap.size w1).alloc (Nat.le_refl _) (.cells #[.slice (some ⟨w.heap.size, 0, none⟩) n n, .int .i64 0, .int .i64 0] 126)
  refine ⟨w1.heap.size, by simp, ⟨w.heap.size, List.replicate n sn0, by simp, ?_, HB1.out.below hbl hlt, Nat.le_refl _, hlt, fun i hi => absurd hi (by omega), fun m hm => ?_⟩, HW1.out.trans (hbl.mono HW1.out.size)⟩
  · rw [HST.out.1, HST.out.2]
    exact Box.new w1 _ _
  · obtain ⟨_, rfl⟩ := List.mem_replicate.1 hm
    exact ⟨fun _ => rfl, by simp [sn0], fun h => absurd h (by simp [sn0])⟩
set_option maxRecDepth 100000 in
set_option maxHeartbeats 4000000 in
theorem ring_New_bad (r : Int) (w : World) (h : r < 1 ∨ 256 < r) :
    Calls Try.prog 16 #[.int .i64 r] w fun e w' => e = .returned (.tuple #[.pointer none, .int .i64 1]) ∧ w' = w := by
  by_cases h1 : r < 1
  · go_enter Try.func16, Try.ntmps16
    go_wp2
    go_ret2
    exact ⟨by simp, rfl⟩
  · have h2 : 256 < r := by omega
    go_enter Try.func16, Try.ntmps16
    go_wp2
    go_ret2
    exact ⟨by simp, rfl⟩
set_option maxRecDepth 100000 in
set_option maxHeartbeats 4000000 in
theorem ring_Len (B g G n k : Nat) (S : Nat → Int × List Int × Int × Int × Bool) (w : World) (h : RingAt w B g G n S k) :
    Calls Try.prog 17 #[.pointer (some ⟨g, 0, none⟩)] w fun e w' => e = .returned (.int .i64 (cntK n k : Nat)) ∧ w' = w := by
  obtain ⟨P, -, hb, -⟩ := h
  have y2 := (hb.cell 2).trans rfl
  generalize cntK n k = ck at *
  go_enter Try.func17, Try.ntmps17
  go_wp2
  go_ret
  exact ⟨by simp, rfl⟩
end Go.Proofs.Ytdcemcpcjdkpjaa
/-! Layer 17: how events among the arguments of a law are opened. -/
namespace Go.Proofs.Ytdcemcpcjdkpjaa
open Go.RowKit Go.WideShapes Go.ChangeShapes Go.Joins Go.Deep
set_option linter.unusedVariables false
set_option linter.unusedSimpArgs false
section
variable {H : Type} {enc : TypeId × Value → H}
theorem open_seens_cs {P : Program} {W : World} {base : Nat} {t e q : TypeId} {v : Value} {d : DataW H} {p : List MemPlace} {f0 f1 f2 f3 g0 g1 : Field} (ht : P.underlying t = some (.slice e)) (he : P.underlying e = some (.struct #[f0, f1, f2, f3])) (hc : P.cellsOf e = 5)
    (ho : (f0.offset, f1.offset, f2.offset, f3.offset) = (0, 1, 2, 4)) (hs : (P.cellsOf f0.type, P.cellsOf f1.type, P.cellsOf f2.type, P.cellsOf f3.type) = (1, 1, 2, 1))
    (hu : (P.underlying f0.type, P.underlying f1.type, P.underlying f2.type, P.underlying f3.type) = (some (.int .i64), some (.slice q), some (.struct #[g0, g1]), some .bool))
    (hg : (g0.offset, g1.offset) = (0, 1)) (hgs : (P.cellsOf g0.type, P.cellsOf g1.type) = (1, 1)) (hgu : (P.underlying g0.type, P.underlying g1.type) = (some (.int .i64), some (.int .i64))) (hq : P.underlying q = some (.int .i64)) (hqc : P.cellsOf q = 1)
    (hv : Value.okWide P W .any base t v) (h : DataW.Trod enc P W 0 (fun _ => true) true t v d p) :
    ∃ A L c, v = .slice A L.length c ∧ LiesSs W W.heap.size A L ∧ L.length ≤ c ∧ c ≤ 9223372036854775807 := by
  simp only [Prod.mk.injEq] at ho hs hu hg hgs hgu
  obtain ⟨o0, o1, o2, o3⟩ := ho
  obtain ⟨s0, s1, s2, s3⟩ := hs
  obtain ⟨u0, u1, u2, u3⟩ := hu
  obtain ⟨p0, p1⟩ := hg
  obtain ⟨r0, r1⟩ := hgs
  obtain ⟨w0, w1⟩ := hgu
  obtain ⟨a0, len, cap, rfl⟩ := okWide_slice ht hv
  obtain ⟨fuel, hf⟩ := h
  rcases open_slice ht hf with ⟨hcs, _⟩ | ⟨a, len', cap', m, n, D, Pl, hcs, _, hle, hm, hmm, _, hx⟩
  · simp [Value.cells] at hcs
    obtain ⟨rfl, rfl, rfl⟩ := hcs
    exact ⟨none, [], 0, rfl, ⟨fun h0 => absurd h0 (by simp), fun n hn => by cases hn⟩, by simp, by simp⟩
  · simp [Value.cells] at hcs
    obtain ⟨rfl, rfl, rfl⟩ := hcs
    simp only [if_true] at hmm
    subst hmm
    rw [hc] at hx
    have each : ∀ i, i < m → ∃ x : SN, (∀ j, j < 5 → W.cell? (a.add (i * 5 + j)) = (snC x)[j]?) ∧ Lies W W.heap.size x.a x.x := fun i hi => by
      obtain ⟨cs', h1, h2⟩ := hx i hi
      obtain ⟨_, hlen, hcell⟩ := World.cells?_some h1
      obtain ⟨xs, n', _, _, _, hxl, hfl⟩ := DataW.trod_struct he h2
      match cs', hlen, xs, hxl with
      | [v0, v1, v2, v3, v4], _, [y0, y1, y2, y3], _ =>
        have t0 := hfl 0 f0 rfl
        have t1 := hfl 1 f1 rfl
        have t2 := hfl 2 f2 rfl
        have t3 := hfl 3 f3 rfl
        rw [o0, s0] at t0
        rw [o1, s1] at t1
        rw [o2, s2] at t2
        rw [o3, s3] at t3
        obtain ⟨n0, e0, _, _⟩ := DataW.trod_int u0 t0
        obtain ⟨b3, e3, _⟩ := DataW.trod_bool u3 t3
        simp at e0 e3
        subst e0 e3
        obtain ⟨xs2, n2', _, _, _, hxl2, hfl2⟩ := DataW.trod_struct u2 t2
        match xs2, hxl2 with
        | [z0, z1], _ =>
          have q0 := hfl2 0 g0 rfl
          have q1 := hfl2 1 g1 rfl
          rw [p0, r0] at q0
          rw [p1, r1] at q1
          obtain ⟨n4, e4, _, _⟩ := DataW.trod_int w0 q0
          obtain ⟨n5, e5, _, _⟩ := DataW.trod_int w1 q1
          simp at e4 e5
          subst e4 e5
          obtain ⟨A, l, c, e6, k1, _, _, _⟩ := open_ints_cs (v := v1) u1 hq hqc (by simpa using t1)
          subst e6
          have k := fun j (hj : j < 5) => hcell j hj
          simp only [add_addT] at k
          exact ⟨⟨n0, A, c, l, n4, n5, b3⟩, fun j hj => by
            match j, hj with
            | 0, _ => exact k 0 (by omega)
            | 1, _ => exact k 1 (by omega)
            | 2, _ => exact k 2 (by omega)
            | 3, _ => exact k 3 (by omega)
            | 4, _ => exact k 4 (by omega), k1⟩
    have : Inhabited SN := ⟨sn0⟩
    obtain ⟨X, hX⟩ := choose_lt each
    have hgd : ∀ j, j < len → ((List.range len).map X).getD j sn0 = X j := fun j hj => by simp [List.getD, hj]
    unfold maxLen at hm
    refine ⟨some a, (List.range len).map X, m, by simp, ⟨fun h0 => ⟨a, rfl, ?_, fun j hj => ?_⟩, fun x hx => ?_⟩, by simp; omega, by omega⟩
    · have h0' : 0 < len := by simpa using h0
      have h1 := (hX 0 (by omega)).1 0 (by omega)
      have h2 := World.block_lt_of_cell? W (a.add (0 * 5 + 0)) h1
      rw [add_block] at h2
      exact h2
    · have hj' : j < len := by simpa using hj
      rw [hgd j hj']
      exact (hX j (by omega)).1
    · obtain ⟨j, hj, rfl⟩ := List.mem_map.1 hx
      exact (hX j (by have := List.mem_range.1 hj; omega)).2
end
set_option maxRecDepth 100000 in
theorem open_seens {H : Type} {enc : TypeId × Value → H} {W : World} {base : Nat} {v : Value} {d : DataW H} {p : List MemPlace}
    (hv : Value.okWide Try.prog W .any base 22 v) (h : DataW.Trod enc Try.prog W 0 (fun _ => true) true 22 v d p) :
    ∃ A L c, v = .slice A L.length c ∧ LiesSs W W.heap.size A L ∧ L.length ≤ c ∧ c ≤ 9223372036854775807 :=
  open_seens_cs Try.underlying22 Try.underlying34 (by kernel_rfl) rfl (by kernel_rfl) (Prod.ext Try.underlying3 (Prod.ext Try.underlying30 (Prod.ext Try.underlying32 Try.underlying4))) rfl (by kernel_rfl) (Prod.ext Try.underlying3 Try.underlying3) Try.underlying3 cells_i8 hv h
end Go.Proofs.Ytdcemcpcjdkpjaa
/-! Layer 17 (ring): push. -/
namespace Go.Proofs.Ytdcemcpcjdkpjaa
open Go.RowKit
set_option linter.unusedVariables false
set_option linter.unusedSimpArgs false

theorem sn_get {L : List SN} {k : Nat} (hk : k < L.length) : L[k]? = some (L.getD k sn0) := by simp [List.getD, hk]
theorem sn_setD {L : List SN} {k : Nat} (hk : k < L.length) (y : SN) : (L.set k y).getD k sn0 = y := by
  rw [List.getD_eq_getElem?_getD, List.getElem?_set_self hk]; rfl
theorem sn_set {w : World} {G : Nat} {L : List SN} {t : TypeId} (h : Box w G (snL L).toArray t) {k j : Nat} (hk : k < L.length) (hj : j < 5) (u : Value) (y : SN) (hy : (snC (L.getD k sn0)).set j u = snC y) : Box (w.setCell ⟨G, k * 5 + j, none⟩ u) G (snL (L.set k y)).toArray t := by
  have h2 := Box.set h (k * 5 + j) u
  rw [show (snL (L.set k y)).toArray = (snL L).toArray.setIfInBounds (k * 5 + j) u from ?_]
  · exact h2
  · apply Array.ext'
    rw [Array.toList_setIfInBounds]
    exact (flat_set snC 5 snC_len j hj u L k _ y (sn_get hk) hy).symm
theorem sn_put {w : World} {G : Nat} {L : List SN} {t : TypeId} (h : Box w G (snL L).toArray t) {k : Nat} (hk : k < L.length) (y : SN) :
    Box (((((w.setCell ⟨G, k * 5, none⟩ (.int .i64 y.id)).setCell ⟨G, k * 5 + 1, none⟩ (.slice y.a y.x.length y.c)).setCell ⟨G, k * 5 + 2, none⟩ (.int .i64 y.p)).setCell ⟨G, k * 5 + 3, none⟩ (.int .i64 y.q)).setCell ⟨G, k * 5 + 4, none⟩ (.bool y.s)) G (snL (L.set k y)).toArray t := by
  have hl : ∀ z, k < (L.set k z).length := fun z => by rw [List.length_set]; exact hk
  have h1 := sn_set h (j := 0) hk (by omega) (.int .i64 y.id) ⟨y.id, (L.getD k sn0).a, (L.getD k sn0).c, (L.getD k sn0).x, (L.getD k sn0).p, (L.getD k sn0).q, (L.getD k sn0).s⟩ rfl
  have h2 := sn_set h1 (k := k) (j := 1) (hl _) (by omega) (.slice y.a y.x.length y.c) ⟨y.id, y.a, y.c, y.x, (L.getD k sn0).p, (L.getD k sn0).q, (L.getD k sn0).s⟩ (by rw [sn_setD hk]; rfl)
  rw [List.set_set] at h2
  have h3 := sn_set h2 (k := k) (j := 2) (hl _) (by omega) (.int .i64 y.p) ⟨y.id, y.a, y.c, y.x, y.p, (L.getD k sn0).q, (L.getD k sn0).s⟩ (by rw [sn_setD hk]; rfl)
  rw [List.set_set] at h3
  have h4 := sn_set h3 (k := k) (j := 3) (hl _) (by omega) (.int .i64 y.q) ⟨y.id, y.a, y.c, y.x, y.p, y.q, (L.getD k sn0).s⟩ (by rw [sn_setD hk]; rfl)
  rw [List.set_set] at h4
  have h5 := sn_set h4 (k := k) (j := 4) (hl _) (by omega) (.bool y.s) y (by rw [sn_setD hk]; rfl)
  rw [List.set_set] at h5
  exact h5
theorem sn_at {w : World} {G : Nat} {L : List SN} {t : TypeId} (h : Box w G (snL L).toArray t) {k : Nat} (hk : k < L.length) :
    w.cell? ⟨G, k * 5, none⟩ = some (.int .i64 (L.getD k sn0).id) ∧ w.cell? ⟨G, k * 5 + 1, none⟩ = some (.slice (L.getD k sn0).a (L.getD k sn0).x.length (L.getD k sn0).c) ∧ w.cell? ⟨G, k * 5 + 2, none⟩ = some (.int .i64 (L.getD k sn0).p) ∧ w.cell? ⟨G, k * 5 + 3, none⟩ = some (.int .i64 (L.getD k sn0).q) ∧ w.cell? ⟨G, k * 5 + 4, none⟩ = some (.bool (L.getD k sn0).s) := by
  have key : ∀ j, j < 5 → w.cell? ⟨G, k * 5 + j, none⟩ = (snC (L.getD k sn0))[j]? := fun j hj => by
    rw [h.cell (k * 5 + j), ← flat_get _ 5 snC_len j hj L k _ (sn_get hk)]
    simp [snL]
  exact ⟨key 0 (by omega), key 1 (by omega), key 2 (by omega), key 3 (by omega), key 4 (by omega)⟩
/-- nothing else is written -/
def Oth (w w' : World) (g G : Nat) : Prop := w.heap.size ≤ w'.heap.size ∧ ∀ b, b < w.heap.size → b ≠ g → b ≠ G → w'.heap[b]? = w.heap[b]?
theorem push_end {w W0 : World} {g G n i B z : Nat} {st : Int} {cv : Value} {P : List SN} (y : SN) (hbg : Box W0 g #[.slice (some ⟨G, 0, none⟩) n n, .int .i64 st, cv] 126) (hbG : Box W0 G (snL P).toArray 34) (hi : i < P.length) (hg : g < w.heap.size) (hgG : G < g) (hB : B ≤ G) (hz : w.heap.size ≤ z) (hBB : Below B w W0) (hs : w.heap.size ≤ W0.heap.size) (ho : ∀ b, b < w.heap.size → W0.heap[b]? = w.heap[b]?) (t : Nat) (cn u0 u1 u2 u3 u4 : Value) :
    Box ((((((((((((W0.drewN t).setCell ⟨G, i * 5, none⟩ (.int .i64 y.id)).setCell ⟨G, i * 5 + 1, none⟩ (.slice y.a y.x.length y.c)).setCell ⟨G, i * 5 + 2, none⟩ (.int .i64 y.p)).setCell ⟨G, i * 5 + 3, none⟩ (.int .i64 y.q)).setCell ⟨G, i * 5 + 4, none⟩ (.bool y.s)).setCell ⟨g, 2, none⟩ cn).setCell ⟨z, 0, none⟩ u0).setCell ⟨z, 1, none⟩ u1).setCell ⟨z, 2, none⟩ u2).setCell ⟨z, 3, none⟩ u3).setCell ⟨z, 4, none⟩ u4) g #[.slice (some ⟨G, 0, none⟩) n n, .int .i64 st, cn] 126 ∧ Box ((((((((((((W0.drewN t).setCell ⟨G, i * 5, none⟩ (.int .i64 y.id)).setCell ⟨G, i * 5 + 1, none⟩ (.slice y.a y.x.length y.c)).setCell ⟨G, i * 5 + 2, none⟩ (.int .i64 y.p)).setCell ⟨G, i * 5 + 3, none⟩ (.int .i64 y.q)).setCell ⟨G, i * 5 + 4, none⟩ (.bool y.s)).setCell ⟨g, 2, none⟩ cn).setCell ⟨z, 0, none⟩ u0).setCell ⟨z, 1, none⟩ u1).setCell ⟨z, 2, none⟩ u2).setCell ⟨z, 3, none⟩ u3).setCell ⟨z, 4, none⟩ u4) G (snL (P.set i y)).toArray 34 ∧ Oth w ((((((((((((W0.drewN t).setCell ⟨G, i * 5, none⟩ (.int .i64 y.id)).setCell ⟨G, i * 5 + 1, none⟩ (.slice y.a y.x.length y.c)).setCell ⟨G, i * 5 + 2, none⟩ (.int .i64 y.p)).setCell ⟨G, i * 5 + 3, none⟩ (.int .i64 y.q)).setCell ⟨G, i * 5 + 4, none⟩ (.bool y.s)).setCell ⟨g, 2, none⟩ cn).setCell ⟨z, 0, none⟩ u0).setCell ⟨z, 1, none⟩ u1).setCell ⟨z, 2, none⟩ u2).setCell ⟨z, 3, none⟩ u3).setCell ⟨z, 4, none⟩ u4) g G ∧ Below B w ((((((((((((W0.drewN t).setCell ⟨G, i * 5, none⟩ (.int .i64 y.id)).setCell ⟨G, i * 5 + 1, none⟩ (.slice y.a y.x.length y.c)).setCell ⟨G, i * 5 + 2, none⟩ (.int .i64 y.p)).setCell ⟨G, i * 5 + 3, none⟩ (.int .i64 y.q)).setCell ⟨G, i * 5 + 4, none⟩ (.bool y.s)).setCell ⟨g, 2, none⟩ cn).setCell ⟨z, 0, none⟩ u0).setCell ⟨z, 1, none⟩ u1).setCell ⟨z, 2, none⟩ u2).setCell ⟨z, 3, none⟩ u3).setCell ⟨z, 4, none⟩ u4) := by
  have zg : ∀ j, (⟨z, j, none⟩ : Addr).block ≠ g := fun j => by show z ≠ g; omega
  have zG : ∀ j, (⟨z, j, none⟩ : Addr).block ≠ G := fun j => by show z ≠ G; omega
  have Gg : ∀ j, (⟨G, j, none⟩ : Addr).block ≠ g := fun j => by show G ≠ g; omega
  have gG : ∀ j, (⟨g, j, none⟩ : Addr).block ≠ G := fun j => by show g ≠ G; omega
  have bz : ∀ j, B ≤ (⟨z, j, none⟩ : Addr).block := fun j => by show B ≤ z; omega
  have bG : ∀ j, B ≤ (⟨G, j, none⟩ : Addr).block := fun j => hB
  have bg : ∀ j, B ≤ (⟨g, j, none⟩ : Addr).block := fun j => by show B ≤ g; omega
  refine ⟨?_, ?_, ⟨?_, fun b hb h1 h2 => ?_⟩, ?_⟩
  · have h5 := (((((hbg.drewN t).off (Gg (i * 5)) (.int .i64 y.id)).off (Gg (i * 5 + 1)) (.slice y.a y.x.length y.c)).off (Gg (i * 5 + 2)) (.int .i64 y.p)).off (Gg (i * 5 + 3)) (.int .i64 y.q)).off (Gg (i * 5 + 4)) (.bool y.s)
    have h6 := h5.set 2 cn
    exact ((((h6.off (zg 0) u0).off (zg 1) u1).off (zg 2) u2).off (zg 3) u3).off (zg 4) u4
  · have h5 := sn_put (hbG.drewN t) hi y
    exact (((((h5.off (gG 2) cn).off (zG 0) u0).off (zG 1) u1).off (zG 2) u2).off (zG 3) u3).off (zG 4) u4
  · have e : ∀ (W : World) p u, (W.setCell p u).heap.size = W.heap.size := fun W p u => by simp [World.setCell]
    rw [e, e, e, e, e, e, e, e, e, e, e]
    exact hs
  · have sc : ∀ (W : World) (B' j : Nat) (u : Value), b ≠ B' → (W.setCell ⟨B', j, none⟩ u).heap[b]? = W.heap[b]? := fun W B' j u h => Go.Deep.blk_setCell_other W ⟨B', j, none⟩ u b h
    have hbz : b ≠ z := by omega
    rw [sc _ z 4 _ hbz, sc _ z 3 _ hbz, sc _ z 2 _ hbz, sc _ z 1 _ hbz, sc _ z 0 _ hbz, sc _ g 2 _ h1, sc _ G _ _ h2, sc _ G _ _ h2, sc _ G _ _ h2, sc _ G _ _ h2, sc _ G _ _ h2]
    exact ho b hb
  · exact (((((((((((below_drewN2 hBB t).setCell (bG _) _).setCell (bG _) _).setCell (bG _) _).setCell (bG _) _).setCell (bG _) _).setCell (bg _) _).setCell (bz _) _).setCell (bz _) _).setCell (bz _) _).setCell (bz _) _).setCell (bz _) _
set_option maxRecDepth 100000 in
set_option maxHeartbeats 4000000 in
theorem last_push_room (g G n st cnt : Nat) (P : List SN) (id p q : Int) (s : Bool) (A : Option Addr) (x : List Int) (c B : Nat) (w : World) (hb : Box w g #[.slice (some ⟨G, 0, none⟩) n n, .int .i64 st, .int .i64 cnt] 126) (hG : Box w G (snL P).toArray 34) (hP : P.length = n) (hn2 : n ≤ 1000) (hst : st ≤ 1000) (hc : cnt < n) (hgG : G < g) (hBG : B ≤ G) :
    Calls Try.prog 82 #[.pointer (some ⟨g, 0, none⟩), .agg #[.int .i64 id, .slice A x.length c, .int .i64 p, .int .i64 q, .bool s]] w fun e w' => e = .returned (.tuple #[.agg #[.int .i64 0, .slice none 0 0, .int .i64 0, .int .i64 0, .bool false], .bool false]) ∧ Box w' g #[.slice (some ⟨G, 0, none⟩) n n, .int .i64 st, .int .i64 ((cnt : Int) + 1)] 126 ∧ Box w' G (snL (P.set ((st + cnt) % n) ⟨id, A, c, x, p, q, s⟩)).toArray 34 ∧ Oth w w' g G ∧ Below B w w' := by
  have HX := Lib.hid (((Kpc.start w).alloc #[.int .i64 id, .slice A x.length c, .int .i64 p, .int .i64 q, .bool s] 34).alloc #[.int .i64 0, .slice none 0 0, .int .i64 0, .int .i64 0, .bool false] 34)
  obtain ⟨x0, x1, x2, x3, x4⟩ := box5 HX.out.tail.head
  obtain ⟨z0, z1, z2, z3, z4⟩ := box5 HX.out.head
  have k0 := HX.out.head.free 0
  have k1 := HX.out.head.free 1
  have k2 := HX.out.head.free 2
  have k3 := HX.out.head.free 3
  have k4 := HX.out.head.free 4
  rw [alloc_size'] at z0 z1 z2 z3 z4 k0 k1 k2 k3 k4
  have HBg := Lib.hid (hb.below HX.out.2.1 hb.lt)
  have HBG := Lib.hid (hG.below HX.out.2.1 hG.lt)
  have y0 := (HBg.out.cell 0).trans rfl
  have y1 := (HBg.out.cell 1).trans rfl
  have y2 := (HBg.out.cell 2).trans rfl
  have fy2 := HBg.out.free 2
  have hn : 0 < n := by omega
  obtain ⟨i, hi⟩ : ∃ i, i = (st + cnt) % n := ⟨_, rfl⟩
  have hin : i < n := by rw [hi]; exact Nat.mod_lt _ hn
  have hing : (i : Int) < (n : Int) := by omega
  obtain ⟨v0, v1, v2, v3, v4⟩ := sn_at HBG.out (k := i) (by omega)
  have f0 := HBG.out.free (i * 5)
  have f1 := HBG.out.free (i * 5 + 1)
  have f2 := HBG.out.free (i * 5 + 2)
  have f3 := HBG.out.free (i * 5 + 3)
  have f4 := HBG.out.free (i * 5 + 4)
  have hcg : (cnt : Int) < (n : Int) := by omega
  have hG1 := hG.lt
  have hg1 := hb.lt
  have KP := Lib.hid (fun W (h : Box W g #[.slice (some ⟨G, 0, none⟩) n n, .int .i64 st, .int .i64 cnt] 126) => ring_place g G n st cnt cnt W h hn hn2 hst (by omega))
  rw [← hi] at KP ⊢
  have HEND := Lib.hid (fun t => push_end (w := w) (B := B) (z := w.heap.size + 1) (i := i) ⟨id, A, c, x, p, q, s⟩ HBg.out HBG.out (by omega) hg1 hgG hBG (Nat.le_succ _) (HX.out.2.1.mono (by omega)) HX.out.2.1.size (fun b hb => HX.out.2.1.block b hb) t (.int .i64 ((cnt : Int) + 1)) (.int .i64 0) (.slice none 0 0) (.int .i64 0) (.int .i64 0) (.bool false))
  simp only at HEND
  have n1 : ¬ g = G := by omega
  have n2 : ¬ G = g := by omega
  have n3 : ¬ w.heap.size + 1 = g := by omega
  have n4 : ¬ g = w.heap.size + 1 := by omega
  have n5 : ¬ w.heap.size + 1 = G := by omega
  have n6 : ¬ G = w.heap.size + 1 := by omega
  generalize x.length = xl at *
  generalize snL (P.set i ⟨id, A, c, x, p, q, s⟩) = PS at *
  generalize P.getD i sn0 = old at *
  clear hi
  go_enter Try.func82, Try.ntmps82
  go_wp2
  go_quiet (fail)
  go_wp2
  go_region_with (first | (go_at_call 85; refine Calls.mono (KP.out _ ?_) ?_; (exact HBg.out); rintro e w' ⟨rfl, m, rfl⟩))
  all_goals
    (go_wp2
     refine bodyPost_ret (v := .tuple #[.agg #[.int .i64 0, .slice none 0 0, .int .i64 0, .int .i64 0, .bool false], .bool false]) ?_ rfl ⟨rfl, ?_⟩
     · simp only [results, show Try.f82.results = #[.cell 4 34, .tmp 5] from rfl]
       go_simp
     · exact HEND.out _)
end Go.Proofs.Ytdcemcpcjdkpjaa
/-! Layer 17 (ring): push where there is no room. -/
namespace Go.Proofs.Ytdcemcpcjdkpjaa
open Go.RowKit
set_option linter.unusedVariables false
set_option linter.unusedSimpArgs false

theorem Box.drew1 {w : World} {g : Nat} {cs : Array Value} {t : TypeId} (h : Box w g cs t) : Box w.drew g cs t := h
set_option maxHeartbeats 2000000 in
theorem push_mid {w W0 : World} {g G n i B z : Nat} {st : Int} {cv z0 z1 z2 z3 z4 : Value} {P : List SN} (y : SN) (hbg : Box W0 g #[.slice (some ⟨G, 0, none⟩) n n, .int .i64 st, cv] 126) (hbG : Box W0 G (snL P).toArray 34) (hbz : Box W0 z #[z0, z1, z2, z3, z4] 34) (hi : i < P.length) (hg : g < w.heap.size) (hgG : G < g) (hB : B ≤ G) (hz : w.heap.size ≤ z) (hBB : Below B w W0) (hs : w.heap.size ≤ W0.heap.size) (ho : ∀ b, b < w.heap.size → W0.heap[b]? = w.heap[b]?) (t : Nat) (u0 u1 u2 u3 u4 : Value) :
    Box (((((((((((((W0).drewN (t)).setCell ⟨z, 0, none⟩ u0).setCell ⟨z, 1, none⟩ u1).setCell ⟨z, 2, none⟩ u2).setCell ⟨z, 3, none⟩ u3).setCell ⟨z, 4, none⟩ u4).setCell ⟨G, i * 5, none⟩ (.int .i64 y.id)).setCell ⟨G, i * 5 + 1, none⟩ (.slice y.a y.x.length y.c)).setCell ⟨G, i * 5 + 2, none⟩ (.int .i64 y.p)).setCell ⟨G, i * 5 + 3, none⟩ (.int .i64 y.q)).setCell ⟨G, i * 5 + 4, none⟩ (.bool y.s)).drew) g #[.slice (some ⟨G, 0, none⟩) n n, .int .i64 st, cv] 126 ∧ Box (((((((((((((W0).drewN (t)).setCell ⟨z, 0, none⟩ u0).setCell ⟨z, 1, none⟩ u1).setCell ⟨z, 2, none⟩ u2).setCell ⟨z, 3, none⟩ u3).setCell ⟨z, 4, none⟩ u4).setCell ⟨G, i * 5, none⟩ (.int .i64 y.id)).setCell ⟨G, i * 5 + 1, none⟩ (.slice y.a y.x.length y.c)).setCell ⟨G, i * 5 + 2, none⟩ (.int .i64 y.p)).setCell ⟨G, i * 5 + 3, none⟩ (.int .i64 y.q)).setCell ⟨G, i * 5 + 4, none⟩ (.bool y.s)).drew) G (snL (P.set i y)).toArray 34 ∧ Box (((((((((((((W0).drewN (t)).setCell ⟨z, 0, none⟩ u0).setCell ⟨z, 1, none⟩ u1).setCell ⟨z, 2, none⟩ u2).setCell ⟨z, 3, none⟩ u3).setCell ⟨z, 4, none⟩ u4).setCell ⟨G, i * 5, none⟩ (.int .i64 y.id)).setCell ⟨G, i * 5 + 1, none⟩ (.slice y.a y.x.length y.c)).setCell ⟨G, i * 5 + 2, none⟩ (.int .i64 y.p)).setCell ⟨G, i * 5 + 3, none⟩ (.int .i64 y.q)).setCell ⟨G, i * 5 + 4, none⟩ (.bool y.s)).drew) z #[u0, u1, u2, u3, u4] 34 ∧ Oth w (((((((((((((W0).drewN (t)).setCell ⟨z, 0, none⟩ u0).setCell ⟨z, 1, none⟩ u1).setCell ⟨z, 2, none⟩ u2).setCell ⟨z, 3, none⟩ u3).setCell ⟨z, 4, none⟩ u4).setCell ⟨G, i * 5, none⟩ (.int .i64 y.id)).setCell ⟨G, i * 5 + 1, none⟩ (.slice y.a y.x.length y.c)).setCell ⟨G, i * 5 + 2, none⟩ (.int .i64 y.p)).setCell ⟨G, i * 5 + 3, none⟩ (.int .i64 y.q)).setCell ⟨G, i * 5 + 4, none⟩ (.bool y.s)).drew) g G ∧ Below B w (((((((((((((W0).drewN (t)).setCell ⟨z, 0, none⟩ u0).setCell ⟨z, 1, none⟩ u1).setCell ⟨z, 2, none⟩ u2).setCell ⟨z, 3, none⟩ u3).setCell ⟨z, 4, none⟩ u4).setCell ⟨G, i * 5, none⟩ (.int .i64 y.id)).setCell ⟨G, i * 5 + 1, none⟩ (.slice y.a y.x.length y.c)).setCell ⟨G, i * 5 + 2, none⟩ (.int .i64 y.p)).setCell ⟨G, i * 5 + 3, none⟩ (.int .i64 y.q)).setCell ⟨G, i * 5 + 4, none⟩ (.bool y.s)).drew) := by
  have zg : ∀ j, (⟨z, j, none⟩ : Addr).block ≠ g := fun j => by show z ≠ g; omega
  have zG : ∀ j, (⟨z, j, none⟩ : Addr).block ≠ G := fun j => by show z ≠ G; omega
  have Gg : ∀ j, (⟨G, j, none⟩ : Addr).block ≠ g := fun j => by show G ≠ g; omega
  have Gz : ∀ j, (⟨G, j, none⟩ : Addr).block ≠ z := fun j => by show G ≠ z; omega
  have bz : ∀ j, B ≤ (⟨z, j, none⟩ : Addr).block := fun j => by show B ≤ z; omega
  have bG : ∀ j, B ≤ (⟨G, j, none⟩ : Addr).block := fun j => hB
  refine ⟨?_, ?_, ?_, ⟨?_, fun b hb h1 h2 => ?_⟩, ?_⟩
  · have h5 := (((((hbg.drewN t).off (zg 0) u0).off (zg 1) u1).off (zg 2) u2).off (zg 3) u3).off (zg 4) u4
    exact ((((((h5).off (Gg (i * 5)) (.int .i64 y.id)).off (Gg (i * 5 + 1)) (.slice y.a y.x.length y.c)).off (Gg (i * 5 + 2)) (.int .i64 y.p)).off (Gg (i * 5 + 3)) (.int .i64 y.q)).off (Gg (i * 5 + 4)) (.bool y.s)).drew1
  · have h5 := (((((hbG.drewN t).off (zG 0) u0).off (zG 1) u1).off (zG 2) u2).off (zG 3) u3).off (zG 4) u4
    exact (sn_put h5 hi y).drew1
  · have h5 := (((((hbz.drewN t).set 0 u0).set 1 u1).set 2 u2).set 3 u3).set 4 u4
    simp only [List.setIfInBounds_toArray, List.set_cons_zero, List.set_cons_succ] at h5
    have h6 := h5
    exact ((((((h6).off (Gz (i * 5)) (.int .i64 y.id)).off (Gz (i * 5 + 1)) (.slice y.a y.x.length y.c)).off (Gz (i * 5 + 2)) (.int .i64 y.p)).off (Gz (i * 5 + 3)) (.int .i64 y.q)).off (Gz (i * 5 + 4)) (.bool y.s)).drew1
  · have e : ∀ (W : World) p u, (W.setCell p u).heap.size = W.heap.size := fun W p u => by simp [World.setCell]
    have e2 : ∀ W : World, W.drew.heap.size = W.heap.size := fun W => rfl
    rw [e2, e, e, e, e, e, e, e, e, e, e]
    exact hs
  · have sc : ∀ (W : World) (B' j : Nat) (u : Value), b ≠ B' → (W.setCell ⟨B', j, none⟩ u).heap[b]? = W.heap[b]? := fun W B' j u h => Go.Deep.blk_setCell_other W ⟨B', j, none⟩ u b h
    have hbz : b ≠ z := by omega
    have e2 : ∀ W : World, W.drew.heap[b]? = W.heap[b]? := fun W => rfl
    rw [e2, sc _ G _ _ h2, sc _ G _ _ h2, sc _ G _ _ h2, sc _ G _ _ h2, sc _ G _ _ h2, sc _ z 4 _ hbz, sc _ z 3 _ hbz, sc _ z 2 _ hbz, sc _ z 1 _ hbz, sc _ z 0 _ hbz]
    exact ho b hb
  · exact ((((((((((below_drewN2 hBB t).setCell (bz _) _).setCell (bz _) _).setCell (bz _) _).setCell (bz _) _).setCell (bz _) _).setCell (bG _) _).setCell (bG _) _).setCell (bG _) _).setCell (bG _) _).setCell (bG _) _ |>.drew
theorem push_end2 {w WA : World} {g G n B z : Nat} {st : Int} {cv : Value} {cs : Array Value} (hbg : Box WA g #[.slice (some ⟨G, 0, none⟩) n n, .int .i64 st, cv] 126) (hbG : Box WA G cs 34) (hg : g < w.heap.size) (hgG : G < g) (hB : B ≤ G) (hz : w.heap.size ≤ z) (hBB : Below B w WA) (hO : Oth w WA g G) (t : Nat) (cn v0 v1 v2 v3 v4 : Value) :
    Box ((((((((WA).drewN t).setCell ⟨g, 1, none⟩ cn).setCell ⟨z, 0, none⟩ v0).setCell ⟨z, 1, none⟩ v1).setCell ⟨z, 2, none⟩ v2).setCell ⟨z, 3, none⟩ v3).setCell ⟨z, 4, none⟩ v4) g #[.slice (some ⟨G, 0, none⟩) n n, cn, cv] 126 ∧ Box ((((((((WA).drewN t).setCell ⟨g, 1, none⟩ cn).setCell ⟨z, 0, none⟩ v0).setCell ⟨z, 1, none⟩ v1).setCell ⟨z, 2, none⟩ v2).setCell ⟨z, 3, none⟩ v3).setCell ⟨z, 4, none⟩ v4) G cs 34 ∧ Oth w ((((((((WA).drewN t).setCell ⟨g, 1, none⟩ cn).setCell ⟨z, 0, none⟩ v0).setCell ⟨z, 1, none⟩ v1).setCell ⟨z, 2, none⟩ v2).setCell ⟨z, 3, none⟩ v3).setCell ⟨z, 4, none⟩ v4) g G ∧ Below B w ((((((((WA).drewN t).setCell ⟨g, 1, none⟩ cn).setCell ⟨z, 0, none⟩ v0).setCell ⟨z, 1, none⟩ v1).setCell ⟨z, 2, none⟩ v2).setCell ⟨z, 3, none⟩ v3).setCell ⟨z, 4, none⟩ v4) := by
  have zg : ∀ j, (⟨z, j, none⟩ : Addr).block ≠ g := fun j => by show z ≠ g; omega
  have zG : ∀ j, (⟨z, j, none⟩ : Addr).block ≠ G := fun j => by show z ≠ G; omega
  have gG : ∀ j, (⟨g, j, none⟩ : Addr).block ≠ G := fun j => by show g ≠ G; omega
  have bz : ∀ j, B ≤ (⟨z, j, none⟩ : Addr).block := fun j => by show B ≤ z; omega
  have bg : ∀ j, B ≤ (⟨g, j, none⟩ : Addr).block := fun j => by show B ≤ g; omega
  refine ⟨?_, ?_, ⟨?_, fun b hb h1 h2 => ?_⟩, ?_⟩
  · have h6 := (hbg.drewN t).set 1 cn
    exact ((((h6.off (zg 0) v0).off (zg 1) v1).off (zg 2) v2).off (zg 3) v3).off (zg 4) v4
  · exact ((((((hbG.drewN t).off (gG 1) cn).off (zG 0) v0).off (zG 1) v1).off (zG 2) v2).off (zG 3) v3).off (zG 4) v4
  · have e : ∀ (W : World) p u, (W.setCell p u).heap.size = W.heap.size := fun W p u => by simp [World.setCell]
    rw [e, e, e, e, e, e]
    exact hO.1
  · have sc : ∀ (W : World) (B' j : Nat) (u : Value), b ≠ B' → (W.setCell ⟨B', j, none⟩ u).heap[b]? = W.heap[b]? := fun W B' j u h => Go.Deep.blk_setCell_other W ⟨B', j, none⟩ u b h
    have hbz : b ≠ z := by omega
    rw [sc _ z 4 _ hbz, sc _ z 3 _ hbz, sc _ z 2 _ hbz, sc _ z 1 _ hbz, sc _ z 0 _ hbz, sc _ g 1 _ h1]
    exact hO.2 b hb h1 h2
  · exact ((((((below_drewN2 hBB t).setCell (bg _) _).setCell (bz _) _).setCell (bz _) _).setCell (bz _) _).setCell (bz _) _).setCell (bz _) _
set_option maxRecDepth 100000 in
set_option maxHeartbeats 4000000 in
theorem last_push_full (g G n st cnt : Nat) (P : List SN) (id p q : Int) (s : Bool) (A : Option Addr) (x : List Int) (c B : Nat) (w : World) (hb : Box w g #[.slice (some ⟨G, 0, none⟩) n n, .int .i64 st, .int .i64 cnt] 126) (hG : Box w G (snL P).toArray 34) (hP : P.length = n) (hn2 : n ≤ 1000) (hst : st ≤ 1000) (hc : cnt = n) (hst2 : st < n) (hn : 0 < n) (hgG : G < g) (hBG : B ≤ G) :
    Calls Try.prog 82 #[.pointer (some ⟨g, 0, none⟩), .agg #[.int .i64 id, .slice A x.length c, .int .i64 p, .int .i64 q, .bool s]] w fun e w' => e = .returned (.tuple #[.agg #[.int .i64 (P.getD st sn0).id, .slice (P.getD st sn0).a (P.getD st sn0).x.length (P.getD st sn0).c, .int .i64 (P.getD st sn0).p, .int .i64 (P.getD st sn0).q, .bool (P.getD st sn0).s], .bool true]) ∧ Box w' g #[.slice (some ⟨G, 0, none⟩) n n, .int .i64 (((st + 1) % n : Nat) : Int), .int .i64 cnt] 126 ∧ Box w' G (snL (P.set st ⟨id, A, c, x, p, q, s⟩)).toArray 34 ∧ Oth w w' g G ∧ Below B w w' := by
  have HX := Lib.hid (((Kpc.start w).alloc #[.int .i64 id, .slice A x.length c, .int .i64 p, .int .i64 q, .bool s] 34).alloc #[.int .i64 0, .slice none 0 0, .int .i64 0, .int .i64 0, .bool false] 34)
  obtain ⟨x0, x1, x2, x3, x4⟩ := box5 HX.out.tail.head
  obtain ⟨z0, z1, z2, z3, z4⟩ := box5 HX.out.head
  have k0 := HX.out.head.free 0
  have k1 := HX.out.head.free 1
  have k2 := HX.out.head.free 2
  have k3 := HX.out.head.free 3
  have k4 := HX.out.head.free 4
  rw [alloc_size'] at z0 z1 z2 z3 z4 k0 k1 k2 k3 k4
  have HBg := Lib.hid (hb.below HX.out.2.1 hb.lt)
  have HBG := Lib.hid (hG.below HX.out.2.1 hG.lt)
  have y0 := (HBg.out.cell 0).trans rfl
  have y1 := (HBg.out.cell 1).trans rfl
  have y2 := (HBg.out.cell 2).trans rfl
  have fy2 := HBg.out.free 2
  have fy1 := HBg.out.free 1
  have hing : (st : Int) < (n : Int) := by omega
  obtain ⟨v0, v1, v2, v3, v4⟩ := sn_at HBG.out (k := st) (by omega)
  have f0 := HBG.out.free (st * 5)
  have f1 := HBG.out.free (st * 5 + 1)
  have f2 := HBG.out.free (st * 5 + 2)
  have f3 := HBG.out.free (st * 5 + 3)
  have f4 := HBG.out.free (st * 5 + 4)
  have hcg : ¬ (cnt : Int) < (n : Int) := by omega
  have hG1 := hG.lt
  have hg1 := hb.lt
  have KP := Lib.hid (fun W (h : Box W g #[.slice (some ⟨G, 0, none⟩) n n, .int .i64 st, .int .i64 cnt] 126) => ring_place g G n st cnt 1 W h hn hn2 hst (by omega))
  have HZ := Lib.hid HX.out.head
  rw [alloc_size'] at HZ
  have HMID := Lib.hid (fun t => push_mid (w := w) (B := B) (z := w.heap.size + 1) (i := st) ⟨id, A, c, x, p, q, s⟩ HBg.out HBG.out HZ.out (by omega) hg1 hgG hBG (Nat.le_succ _) (HX.out.2.1.mono (by omega)) HX.out.2.1.size (fun b hb => HX.out.2.1.block b hb) t (.int .i64 (P.getD st sn0).id) (.slice (P.getD st sn0).a (P.getD st sn0).x.length (P.getD st sn0).c) (.int .i64 (P.getD st sn0).p) (.int .i64 (P.getD st sn0).q) (.bool (P.getD st sn0).s))
  simp only at HMID
  have n1 : ¬ g = G := by omega
  have n2 : ¬ G = g := by omega
  have n3 : ¬ w.heap.size + 1 = g := by omega
  have n4 : ¬ g = w.heap.size + 1 := by omega
  have n5 : ¬ w.heap.size + 1 = G := by omega
  have n6 : ¬ G = w.heap.size + 1 := by omega
  generalize x.length = xl at *
  generalize (snL (P.set st ⟨id, A, c, x, p, q, s⟩)).toArray = PS at *
  generalize P.getD st sn0 = old at *
  obtain ⟨oi, oa, oc, ox, op, oq, os⟩ := old
  simp only at *
  generalize ox.length = ol at *
  go_enter Try.func82, Try.ntmps82
  go_wp2
  go_quiet (fail)
  go_wp2
  go_region
  go_wp2
  go_region
  have hM := HMID.out (nq + 1)
  clear HMID x0 x1 x2 x3 x4 z0 z1 z2 z3 z4 k0 k1 k2 k3 k4 v0 v1 v2 v3 v4 f0 f1 f2 f3 f4 y0 y1 y2 fy1 fy2
  generalize (((((((((((((w.alloc (.cells #[.int .i64 id, .slice A xl c, .int .i64 p, .int .i64 q, .bool s] 34)).alloc (.cells #[.int .i64 0, .slice none 0 0, .int .i64 0, .int .i64 0, .bool false] 34)).drewN (nq + 1)).setCell ⟨w.heap.size + 1, 0, none⟩ (.int .i64 oi)).setCell ⟨w.heap.size + 1, 1, none⟩ (.slice oa ol oc)).setCell ⟨w.heap.size + 1, 2, none⟩ (.int .i64 op)).setCell ⟨w.heap.size + 1, 3, none⟩ (.int .i64 oq)).setCell ⟨w.heap.size + 1, 4, none⟩ (.bool os)).setCell ⟨G, st * 5, none⟩ (.int .i64 id)).setCell ⟨G, st * 5 + 1, none⟩ (.slice A xl c)).setCell ⟨G, st * 5 + 2, none⟩ (.int .i64 p)).setCell ⟨G, st * 5 + 3, none⟩ (.int .i64 q)).setCell ⟨G, st * 5 + 4, none⟩ (.bool s)).drew = WA at *
  obtain ⟨m1, m2, m3, m4, m5⟩ := hM
  have HM1 := Lib.hid m1
  obtain ⟨z0, z1, z2, z3, z4⟩ := box5 m3
  have k0 := m3.free 0
  have k1 := m3.free 1
  have k2 := m3.free 2
  have k3 := m3.free 3
  have k4 := m3.free 4
  have fy1 := m1.free 1
  have y1 := (m1.cell 1).trans rfl
  have HE := Lib.hid (fun t => push_end2 (w := w) (z := w.heap.size + 1) m1 m2 hg1 hgG hBG (Nat.le_succ _) m5 m4 t (.int .i64 (((st + 1) % n : Nat) : Int)) (.int .i64 oi) (.slice oa ol oc) (.int .i64 op) (.int .i64 oq) (.bool os))
  clear m1 m2 m3 m4 m5
  go_wp2_with fail
  refine Calls.mono (KP.out _ ?_) ?_
  · exact HM1.out
  rintro e w' ⟨rfl, m, rfl⟩
  go_wp2
  refine bodyPost_ret (v := .tuple #[.agg #[.int .i64 oi, .slice oa ol oc, .int .i64 op, .int .i64 oq, .bool os], .bool true]) ?_ rfl ⟨rfl, ?_⟩
  · simp only [results, show Try.f82.results = #[.cell 4 34, .tmp 5] from rfl]
    go_simp
  · exact HE.out _
end Go.Proofs.Ytdcemcpcjdkpjaa
/-! Layer 17 (ring): Push. -/
namespace Go.Proofs.Ytdcemcpcjdkpjaa
open Go.RowKit
set_option linter.unusedVariables false
set_option linter.unusedSimpArgs false

theorem st_next {n k : Nat} (hn : 0 < n) : (k < n → (stK n k + cntK n k) % n = k % n ∧ stK n (k + 1) = stK n k ∧ cntK n (k + 1) = cntK n k + 1 ∧ cntK n k < n ∧ cntK n k = k) ∧ (¬ k < n → stK n k = k % n ∧ stK n (k + 1) = (stK n k + 1) % n ∧ cntK n (k + 1) = cntK n k ∧ cntK n k = n) := by
  unfold stK cntK
  constructor
  · intro h
    rw [if_pos h, show min k n = k from by omega, Nat.zero_add]
    refine ⟨rfl, ?_, by omega, h, rfl⟩
    by_cases h2 : k + 1 < n
    · rw [if_pos h2]
    · rw [if_neg h2, show k + 1 = n from by omega, Nat.mod_self]
  · intro h
    rw [if_neg h, if_neg (by omega)]
    exact ⟨rfl, by rw [Nat.mod_add_mod], by omega, by omega⟩
/-- what is there behind one more -/
theorem next_at {n k : Nat} {P : List SN} {S : Nat → Int × List Int × Int × Int × Bool} {y : SN} (hn : 0 < n) (hP : P.length = n) (h : ∀ i, i < k → k ≤ i + n → sgS (P.getD (i % n) sn0) = S i) (hy : sgS y = S k) : ∀ i, i < k + 1 → k + 1 ≤ i + n → sgS ((P.set (k % n) y).getD (i % n) sn0) = S i := by
  intro i h1 h2
  have hk : k % n < P.length := by rw [hP]; exact Nat.mod_lt _ hn
  by_cases e : i = k
  · subst e
    rw [sn_setD hk]
    exact hy
  · have hne : k % n ≠ i % n := by
      intro e2
      have h3 : (k - i) % n = 0 := by
        have := Nat.sub_mod_eq_zero_of_mod_eq e2
        exact this
      have h4 : k - i < n := by omega
      rw [Nat.mod_eq_of_lt h4] at h3
      omega
    rw [List.getD_eq_getElem?_getD, List.getElem?_set_ne hne, ← List.getD_eq_getElem?_getD]
    exact h i (by omega) (by omega)
theorem oth_own {w w' : World} {g G h : Nat} {x : List Int} (ho : Oth w w' g G) (hx : OwnI w h x) (h1 : h ≠ g) (h2 : h ≠ G) : OwnI w' h x := by
  obtain ⟨cs, e, hc⟩ := hx
  refine ⟨cs, ?_, hc⟩
  rw [ho.2 h ?_ h1 h2]
  · exact e
  · exact OwnI.lt ⟨cs, e, hc⟩
theorem stK_lt {n k : Nat} (hn : 0 < n) : stK n k < n := by
  unfold stK
  by_cases h : k < n
  · rw [if_pos h]; exact hn
  · rw [if_neg h]; exact Nat.mod_lt _ hn
/-- push, where there is room or not -/
theorem last_push (g G n k : Nat) (P : List SN) (id p q : Int) (s : Bool) (A : Option Addr) (x : List Int) (c B : Nat) (w : World) (hb : Box w g #[.slice (some ⟨G, 0, none⟩) n n, .int .i64 (stK n k : Nat), .int .i64 (cntK n k : Nat)] 126) (hG : Box w G (snL P).toArray 34) (hP : P.length = n) (hn : 0 < n) (hn2 : n ≤ 1000) (hgG : G < g) (hBG : B ≤ G) :
    Calls Try.prog 82 #[.pointer (some ⟨g, 0, none⟩), .agg #[.int .i64 id, .slice A x.length c, .int .i64 p, .int .i64 q, .bool s]] w fun e w' => ∃ o : SN, e = .returned (.tuple #[.agg #[.int .i64 o.id, .slice o.a o.x.length o.c, .int .i64 o.p, .int .i64 o.q, .bool o.s], .bool (decide (n ≤ k))]) ∧ (n ≤ k → o = P.getD (k % n) sn0) ∧ (k < n → o = sn0) ∧ Box w' g #[.slice (some ⟨G, 0, none⟩) n n, .int .i64 (stK n (k + 1) : Nat), .int .i64 (cntK n (k + 1) : Nat)] 126 ∧ Box w' G (snL (P.set (k % n) ⟨id, A, c, x, p, q, s⟩)).toArray 34 ∧ Oth w w' g G ∧ Below B w w' := by
  have hlt := stK_lt (k := k) hn
  by_cases h : k < n
  · obtain ⟨e1, e2, e3, e4, e5⟩ := (st_next (k := k) hn).1 h
    refine (last_push_room g G n (stK n k) (cntK n k) P id p q s A x c B w hb hG hP hn2 (by omega) e4 hgG hBG).mono ?_
    rintro e w' ⟨he, h1, h2, h3, h4⟩
    rw [e1] at h2
    refine ⟨sn0, ?_, fun h5 => absurd h5 (by omega), fun _ => rfl, ?_, h2, h3, h4⟩
    · rw [he, decide_eq_false (by omega)]
      rfl
    · rw [e2, e3, Int.natCast_add]
      exact h1
  · obtain ⟨e1, e2, e3, e4⟩ := (st_next (k := k) hn).2 h
    refine (last_push_full g G n (stK n k) (cntK n k) P id p q s A x c B w hb hG hP hn2 (by omega) e4 hlt hn hgG hBG).mono ?_
    rintro e w' ⟨he, h1, h2, h3, h4⟩
    rw [e1] at h2 he
    refine ⟨P.getD (k % n) sn0, ?_, fun _ => rfl, fun h5 => absurd h5 h, ?_, h2, h3, h4⟩
    · rw [he, decide_eq_true (by omega)]
    · rw [e2, e3]
      exact h1
end Go.Proofs.Ytdcemcpcjdkpjaa
/-! Layer 17 (ring): Push of a ring. -/
namespace Go.Proofs.Ytdcemcpcjdkpjaa
open Go.RowKit
set_option linter.unusedVariables false
set_option linter.unusedSimpArgs false

theorem box_oth {w w' : World} {g G h : Nat} {cs : Array Value} {t : TypeId} (ho : Oth w w' g G) (hb : Box w h cs t) (h1 : h ≠ g) (h2 : h ≠ G) : Box w' h cs t := (ho.2 h hb.lt h1 h2).trans hb
theorem push_fin {w W0 w2 w3 : World} {B g G n k z : Nat} {P : List SN} {S : Nat → Int × List Int × Int × Int × Bool} {y : SN} (hn : 0 < n) (hP : P.length = n) (hBG : B ≤ G) (hgG : G < g) (hPS : ∀ i, i < k → k ≤ i + n → sgS (P.getD (i % n) sn0) = S i) (hNX : ∀ m ∈ P, NX w g m) (hy : sgS y = S k) (hyl : y.x.length ≤ 1000) (hyc : y.a = none → y.c = 0) (hN : NewX W0 w2 y.a y.x) (hz : z < W0.heap.size) (hg : g < w.heap.size) (hwz : w.heap.size ≤ z) (hb2 : Below w.heap.size w w2) (hO : Oth w2 w3 g G)
    (hb3 : Box w3 g #[.slice (some ⟨G, 0, none⟩) n n, .int .i64 (stK n (k + 1) : Nat), .int .i64 (cntK n (k + 1) : Nat)] 126) (hG3 : Box w3 G (snL (P.set (k % n) y)).toArray 34) (u0 u1 u2 u3 u4 : Value) : RingAt (((((w3.setCell ⟨z, 0, none⟩ u0).setCell ⟨z, 1, none⟩ u1).setCell ⟨z, 2, none⟩ u2).setCell ⟨z, 3, none⟩ u3).setCell ⟨z, 4, none⟩ u4) B g G n S (k + 1) := by
  have zg : ∀ j, (⟨z, j, none⟩ : Addr).block ≠ g := fun j => by show z ≠ g; omega
  have zG : ∀ j, (⟨z, j, none⟩ : Addr).block ≠ G := fun j => by show z ≠ G; omega
  refine ⟨P.set (k % n) y, by rw [List.length_set]; exact hP, ((((hb3.off (zg 0) u0).off (zg 1) u1).off (zg 2) u2).off (zg 3) u3).off (zg 4) u4, ((((hG3.off (zG 0) u0).off (zG 1) u1).off (zG 2) u2).off (zG 3) u3).off (zG 4) u4, hBG, hgG, next_at hn hP hPS hy, fun m hm => ?_⟩
  rcases List.mem_or_eq_of_mem_set hm with hm | rfl
  · obtain ⟨h1, h2, h3⟩ := hNX m hm
    refine ⟨h1, h2, fun h0 => ?_⟩
    obtain ⟨h, e, hgh, ho⟩ := h3 h0
    have hl := ho.lt
    have zh : ∀ j, (⟨z, j, none⟩ : Addr).block ≠ h := fun j => by show z ≠ h; omega
    have o3 := oth_own hO (ho.below hb2 hl) (by omega) (by omega)
    exact ⟨h, e, hgh, ((((o3.off (zh 0) u0).off (zh 1) u1).off (zh 2) u2).off (zh 3) u3).off (zh 4) u4⟩
  · refine ⟨hyc, hyl, fun h0 => ?_⟩
    obtain ⟨h, e, hgh, ho⟩ := hN h0
    have zh : ∀ j, (⟨z, j, none⟩ : Addr).block ≠ h := fun j => by show z ≠ h; omega
    have o3 := oth_own hO ho (by omega) (by omega)
    exact ⟨h, e, by omega, ((((o3.off (zh 0) u0).off (zh 1) u1).off (zh 2) u2).off (zh 3) u3).off (zh 4) u4⟩
set_option maxRecDepth 100000 in
set_option maxHeartbeats 4000000 in
theorem ring_Push (B g G n k B1 : Nat) (S : Nat → Int × List Int × Int × Int × Bool) (id p q : Int) (s : Bool) (A : Option Addr) (x : List Int) (c : Nat) (w : World) (h : RingAt w B g G n S k) (hn : 0 < n) (hn2 : n ≤ 1000) (hx : Lies w B1 A x) (hB1 : B1 ≤ w.heap.size) (hx2 : x.length ≤ 1000) (hS : S k = (id, x, p, q, s)) :
    Calls Try.prog 20 #[.pointer (some ⟨g, 0, none⟩), .agg #[.int .i64 id, .slice A x.length c, .int .i64 p, .int .i64 q, .bool s]] w fun e w' => ∃ o : SN, e = .returned (.tuple #[.agg #[.int .i64 o.id, .slice o.a o.x.length o.c, .int .i64 o.p, .int .i64 o.q, .bool o.s], .bool (decide (n ≤ k))]) ∧ RingAt w' B g G n S (k + 1) ∧ Below B w w' ∧ (n ≤ k → sgS o = S (k - n)) ∧ (k < n → o = sn0) := by
  obtain ⟨P, hP, hb, hG, hBG, hgG, hPS, hNX⟩ := h
  have HX := Lib.hid (((Kpc.start w).alloc #[.int .i64 id, .slice A x.length c, .int .i64 p, .int .i64 q, .bool s] 34).alloc #[.int .i64 0, .slice none 0 0, .int .i64 0, .int .i64 0, .bool false] 34)
  rw [alloc_size'] at HX
  have HSZ : Hid (((w.alloc (.cells #[.int .i64 id, .slice A x.length c, .int .i64 p, .int .i64 q, .bool s] 34)).alloc (.cells #[.int .i64 0, .slice none 0 0, .int .i64 0, .int .i64 0, .bool false] 34)).heap.size = w.heap.size + 1 + 1) := by
    show _ = _
    rw [alloc_size', alloc_size']
  obtain ⟨x0, x1, x2, x3, x4⟩ := box5 HX.out.tail.head
  have hg1 := hb.lt
  have hG1 := hG.lt
  have hz1 : w.heap.size + 1 ≠ g := by omega
  have hz2 : w.heap.size + 1 ≠ G := by omega
  have KO := Lib.hid (fun W (hW : Below w.heap.size w W) => ring_own id p q s A x c B1 W (hx.below (hW.mono hB1)) hx2 (Nat.le_trans hB1 hW.size))
  have KP := Lib.hid (fun A' c' W (hW : Below w.heap.size w W) => last_push g G n k P id p q s A' x c' B W (hb.below hW hg1) (hG.below hW hG1) hP hn hn2 hgG hBG)
  have HPS := Lib.hid hPS
  have HNX := Lib.hid hNX
  clear hx hPS hNX
  go_enter Try.func20, Try.ntmps20
  go_wp2
  generalize (w.alloc (.cells #[.int .i64 id, .slice A x.length c, .int .i64 p, .int .i64 q, .bool s] 34)).alloc (.cells #[.int .i64 0, .slice none 0 0, .int .i64 0, .int .i64 0, .bool false] 34) = W0 at *
  have HXd := Lib.hid HX.out.drew
  go_region_with (first | (go_at_call 83; refine Calls.mono (KO.out _ ?_) ?_; (exact HXd.out.2.1); rintro e w2 ⟨A2, c2, rfl, hA2, hN, hb2⟩; have HK2 := Lib.hid (HXd.out.below hb2)) | (go_at_call 82; refine Calls.mono (KP.out _ _ _ HK2.out.2.1) ?_; rintro e w3 ⟨o, rfl, ho1, ho2, hb3, hG3, hO3, hB3⟩; have HZ := Lib.hid (box_oth hO3 HK2.out.head hz1 hz2); obtain ⟨z0, z1, z2, z3, z4⟩ := box5 HZ.out; have k0 := HZ.out.free 0; have k1 := HZ.out.free 1; have k2 := HZ.out.free 2; have k3 := HZ.out.free 3; have k4 := HZ.out.free 4))
  go_wp2
  have bz : ∀ j, B ≤ (⟨w.heap.size + 1, j, none⟩ : Addr).block := fun j => by show B ≤ w.heap.size + 1; omega
  refine bodyPost_ret (v := .tuple #[.agg #[.int .i64 o.id, .slice o.a o.x.length o.c, .int .i64 o.p, .int .i64 o.q, .bool o.s], .bool (decide (n ≤ k))]) ?_ rfl ⟨o, rfl, ?_, ?_, fun h5 => ?_, ho2⟩
  · simp only [results, show Try.f20.results = #[.cell 4 34, .tmp 5] from rfl]
    go_simp
  · exact push_fin (y := ⟨id, A2, c2, x, p, q, s⟩) hn hP hBG hgG HPS.out HNX.out hS.symm hx2 hA2 hN HXd.out.head.lt hg1 (Nat.le_succ _) HK2.out.2.1 hO3 hb3 hG3 _ _ _ _ _
  · exact ((((((HK2.out.2.1.mono (by omega)).trans hB3).setCell (bz 0) _).setCell (bz 1) _).setCell (bz 2) _).setCell (bz 3) _).setCell (bz 4) _
  · rw [ho1 h5]
    have h6 := HPS.out (k - n) (by omega) (by omega)
    rw [← Nat.mod_eq_sub_mod h5] at h6
    exact h6
end Go.Proofs.Ytdcemcpcjdkpjaa
