import Derived.Test.YtpjgnghmhbkmkaaCutA

/-! Package cut: open, column, between. -/
namespace Go.Proofs.Ytpjgnghmhbkmkaa
open Go.RowKit
set_option linter.unusedVariables false
set_option linter.unusedSimpArgs false

/-- a cut, a place, whether there is one, an error -/
def GivesD (r : List Int × Int × Int × Bool × Int) (w : World) (e : Ending) (w' : World) : Prop :=
  ∃ A c, e = .returned (.tuple #[.agg #[.slice A r.1.length c, .int .i64 r.2.1], .int .i64 r.2.2.1, .bool r.2.2.2.1, .int .i64 r.2.2.2.2]) ∧ r.1.length ≤ c ∧ c ≤ 9223372036854775807 ∧ Lies w' w'.heap.size A r.1 ∧ New w A ∧ Below w.heap.size w w'
theorem givesD_no {w w' : World} {p x : Int} (h : Below w.heap.size w w') : GivesD ([], 0, p, false, x) w (.returned (.tuple #[.agg #[.slice none 0 0, .int .i64 0], .int .i64 p, .bool false, .int .i64 x])) w' :=
  ⟨none, 0, rfl, Nat.le_refl _, by omega, fun h1 => absurd h1 (by simp), (fun _ e => by cases e), h⟩
/-- a cut with the parts that were handed in, or an error -/
def GivesB (co : List Int) (Ac : Option Addr) (cc : Nat) (r : List Int × Int × Int × Bool × Int) (w : World) (e : Ending) (w' : World) : Prop :=
  Below w.heap.size w w' ∧ ((r = (co, r.2.1, r.2.2.1, true, 0) ∧ e = .returned (.tuple #[.agg #[.slice Ac co.length cc, .int .i64 r.2.1], .int .i64 r.2.2.1, .bool true, .int .i64 0])) ∨
    (r = noD r.2.2.2.2 ∧ ¬ r.2.2.2.2 = 0 ∧ e = .returned (.tuple #[.agg #[.slice none 0 0, .int .i64 0], .int .i64 0, .bool false, .int .i64 r.2.2.2.2])))
theorem Kpc.set2 {B : Nat} {W w : World} {g : Nat} {a b : Value} {t : TypeId} {l : List (Nat × Array Value × TypeId)} (h : Kpc B W ((g, #[a, b], t) :: l) w) (hg : B ≤ g) (u v : Value) :
    (World.cell? ((w.setCell ⟨g, 0, none⟩ u).setCell ⟨g, 1, none⟩ v) ⟨g, 0, none⟩ = some u ∧ World.cell? ((w.setCell ⟨g, 0, none⟩ u).setCell ⟨g, 1, none⟩ v) ⟨g, 1, none⟩ = some v) ∧ Below B W ((w.setCell ⟨g, 0, none⟩ u).setCell ⟨g, 1, none⟩ v) := by
  obtain ⟨k0, k1, _, _⟩ := (Box.set2 h.head u v).two
  exact ⟨⟨k0, k1⟩, (h.2.1.setCell (p := ⟨g, 0, none⟩) hg _).setCell (p := ⟨g, 1, none⟩) hg _⟩
theorem Lies.set2 {w : World} {g : Nat} {B : Nat} {A : Option Addr} {l : List Int} (h : Lies w B A l) (hg : B ≤ g) (u v : Value) : Lies ((w.setCell ⟨g, 0, none⟩ u).setCell ⟨g, 1, none⟩ v) B A l :=
  h.below (((Below.refl B w).setCell (p := ⟨g, 0, none⟩) hg _).setCell (p := ⟨g, 1, none⟩) hg _)

set_option maxHeartbeats 1000000 in
theorem cut_between (Ac Ar A : Option Addr) (co : List Int) (R : List Row) (l : List Int) (cc cr c : Nat) (a t : Int) (w : World) (hc : Lies w w.heap.size Ac co) (hr : LiesR w w.heap.size Ar R) (hR : OkR R) (hA : LiesU w w.heap.size A l) (hu : ∀ x ∈ l, U64 x) (hl : (l.length : Int) ≤ 9223372036854775807)
    (hat : I64 a) (hlc : co.length ≤ 1000) (hcc : co.length ≤ cc) (hlr : (R.length : Int) ≤ 9223372036854775807) (hcr : R.length ≤ cr) :
    Calls Try.prog 76 #[.slice Ac co.length cc, .slice Ar R.length cr, .slice A l.length c, .int .i64 a, .int .i64 t] w (GivesB co Ac cc (btw co R l a t) w) := by
  have K1 := Lib.hid (fun W (h : Below w.heap.size w W) => vec_Reach Ac Ar co R cc cr W ((hc.below h).mono h.size) ((hr.below h).mono h.size) hR (by omega) hlr hcc hcr)
  have HX := Lib.hid ((Kpc.start w).alloc #[.slice none 0 0, .int .i64 0] 40)
  by_cases hE : reachE co R = true
  · have hb := reach_bd hE
    have hC := reachC_0 hE
    have KR := Lib.hid (fun W (h : Below w.heap.size w W) => draw_range A l c a (reachLo co R + 1) (reachHi co R) t W ((hA.below h).mono h.size) hu hl (by unfold I64; omega) (by unfold I64; omega) hat)
    have HV : Hid (btw co R l a t = if (rng l a (reachLo co R + 1) (reachHi co R) t).2.2 = 0 then (co, (rng l a (reachLo co R + 1) (reachHi co R) t).1, (rng l a (reachLo co R + 1) (reachHi co R) t).2.1, true, 0) else noD (rng l a (reachLo co R + 1) (reachHi co R) t).2.2) := by
      show _ = _
      unfold btw; rw [if_pos hC]
    rw [hC] at K1
    generalize btw co R l a t = Z at *
    generalize rng l a (reachLo co R + 1) (reachHi co R) t = F at *
    generalize reachLo co R = lo at *
    generalize reachHi co R = hi at *
    obtain ⟨n, p, e⟩ := F
    simp only at HV
    clear hc hr hA hE hR hu
    have hwr : wrap64 (lo + 1) = lo + 1 := by unfold wrap64; omega
    obtain ⟨y0, y1, f0, f1⟩ := HX.out.head.two
    go_enter Try.func76, Try.ntmps76
    go_wp2_with fail
    refine (K1.out _ HX.out.2.1).mono ?_
    rintro e1 w1 ⟨rfl, b1⟩
    have J1 := Lib.hid (HX.out.below b1)
    clear b1
    go_wp2_with fail
    refine (KR.out _ J1.out.2.1).mono ?_
    rintro e1 w2 ⟨rfl, b2⟩
    have J2 := Lib.hid (J1.out.below b2)
    obtain ⟨z0, z1, g0, g1⟩ := J2.out.head.two
    clear b2
    by_cases he : e = 0
    · subst he
      go_wp2
      obtain ⟨⟨k0, k1⟩, bz⟩ := Kpc.set2 J2.out (Nat.le_refl _) (.slice Ac co.length cc) (.int .i64 n)
      refine bodyPost_ret (v := .tuple #[.agg #[.slice Ac co.length cc, .int .i64 n], .int .i64 p, .bool true, .int .i64 0]) ?_ rfl ?_
      · simp [results, Try.results76, go_sem, k0, k1]
      · rw [show Z = (co, n, p, true, 0) from HV.out.trans (if_pos trivial)]
        exact ⟨bz, .inl ⟨rfl, rfl⟩⟩
    · have hne : (e != 0) = true := by simpa using he
      go_wp2
      obtain ⟨⟨k0, k1⟩, bz⟩ := Kpc.set2 J2.out (Nat.le_refl _) (.slice none 0 0) (.int .i64 0)
      refine bodyPost_ret (v := .tuple #[.agg #[.slice none 0 0, .int .i64 0], .int .i64 0, .bool false, .int .i64 e]) ?_ rfl ?_
      · simp [results, Try.results76, go_sem, k0, k1]
      · rw [show Z = noD e from HV.out.trans (if_neg he)]
        exact ⟨bz, .inr ⟨rfl, he, rfl⟩⟩
  · have hC : reachC co R = 80 := by unfold reachC; rw [if_neg hE]
    have HV : Hid (btw co R l a t = noD 80) := by
      show _ = _
      unfold btw; rw [hC, if_neg (by decide)]
    rw [hC] at K1
    generalize btw co R l a t = Z at *
    generalize reachLo co R = lo at *
    generalize reachHi co R = hi at *
    clear hc hr hA hE hR hu
    obtain ⟨y0, y1, f0, f1⟩ := HX.out.head.two
    go_enter Try.func76, Try.ntmps76
    go_wp2_with fail
    refine (K1.out _ HX.out.2.1).mono ?_
    rintro e1 w1 ⟨rfl, b1⟩
    have J1 := Lib.hid (HX.out.below b1)
    obtain ⟨z0, z1, g0, g1⟩ := J1.out.head.two
    clear b1
    go_wp2
    obtain ⟨⟨k0, k1⟩, bz⟩ := Kpc.set2 J1.out (Nat.le_refl _) (.slice none 0 0) (.int .i64 0)
    refine bodyPost_ret (v := .tuple #[.agg #[.slice none 0 0, .int .i64 0], .int .i64 0, .bool false, .int .i64 80]) ?_ rfl ?_
    · simp [results, Try.results76, go_sem, k0, k1]
    · rw [HV.out]
      exact ⟨bz, .inr ⟨rfl, by decide, rfl⟩⟩

/-! ### open -/
def opnD (R : List Row) : List Int := if boxE R (dimR R) then opn R else []
def dimD (R : List Row) : Int := if boxE R (dimR R) then dimR R else 0
def GivesO (R : List Row) (w : World) (e : Ending) (w' : World) : Prop :=
  ∃ A c, e = .returned (.tuple #[.slice A (opnD R).length c, .int .i64 (dimD R), .int .i64 (boxC R (dimR R))]) ∧ (opnD R).length ≤ c ∧ c ≤ maxLen ∧ Lies w' w'.heap.size A (opnD R) ∧ Below w.heap.size w w'
theorem box_dim {R : List Row} (h : boxE R (dimR R) = true) : 1 ≤ dimR R ∧ dimR R ≤ 8 ∧ 0 < R.length := by
  obtain ⟨h0, hv⟩ := boxE_iff.1 h
  have h3 := isV_iff.1 (hv 0 h0)
  refine ⟨?_, ?_, h0⟩ <;> omega
theorem box_lens {R : List Row} (h : boxE R (dimR R) = true) : (boxLo R (dimR R)).length = dimR R ∧ (boxHi R (dimR R)).length = dimR R := by
  unfold boxLo boxHi
  rw [if_pos h, if_pos h]
  simp
theorem openK_mem (lo hi : List Int) (x : Int) : ∀ k, x ∈ openK lo hi k ↔ ∃ j : Nat, j < k ∧ x = j ∧ lo.getD j 0 < hi.getD j 0
  | 0 => by simp [openK]
  | k + 1 => by
    have ih := openK_mem lo hi x k
    simp only [openK]
    constructor
    · intro h
      split at h
      · rename_i g
        rcases List.mem_append.1 h with e | e
        · obtain ⟨j, h1, h2⟩ := ih.1 e
          exact ⟨j, by omega, h2⟩
        · exact ⟨k, by omega, List.mem_singleton.1 e, g⟩
      · obtain ⟨j, h1, h2⟩ := ih.1 h
        exact ⟨j, by omega, h2⟩
    · rintro ⟨j, h1, h2, h3⟩
      by_cases g : j = k
      · subst g
        rw [if_pos h3, h2]; simp
      · have hm := ih.2 ⟨j, by omega, h2, h3⟩
        split
        · exact List.mem_append_left _ hm
        · exact hm
theorem opn_mem {R : List Row} (h : boxE R (dimR R) = true) {x : Int} (hx : x ∈ opn R) : ∃ j : Nat, j < dimR R ∧ x = j ∧ (boxLo R (dimR R)).getD j 0 < (boxHi R (dimR R)).getD j 0 := by
  obtain ⟨h1, h2⟩ := box_lens h
  unfold opn openL at hx
  rw [h1, h2, Nat.min_self] at hx
  exact (openK_mem _ _ _ _).1 hx
theorem opn_len {R : List Row} (h : boxE R (dimR R) = true) : (opn R).length ≤ 8 := by
  have h1 := openK_len (boxLo R (dimR R)) (boxHi R (dimR R)) (min (boxLo R (dimR R)).length (boxHi R (dimR R)).length)
  rw [(box_lens h).1, (box_lens h).2, Nat.min_self] at h1
  have h2 := (box_dim h).2.1
  unfold opn openL
  rw [(box_lens h).1, (box_lens h).2, Nat.min_self]
  omega
set_option maxHeartbeats 1000000 in
theorem cut_open (A : Option Addr) (R : List Row) (c : Nat) (w : World) (hr : LiesR w w.heap.size A R) (hR : OkR R) (hlr : (R.length : Int) ≤ 9223372036854775807) (hcr : R.length ≤ c) :
    Calls Try.prog 73 #[.slice A R.length c] w (GivesO R w) := by
  rcases Nat.eq_zero_or_pos R.length with h0 | h0
  · have hE : ¬ boxE R (dimR R) = true := by rw [boxE_iff]; omega
    have HG : Hid (∀ w', Below w.heap.size w w' → GivesO R w (.returned (.tuple #[.slice none 0 0, .int .i64 0, .int .i64 80])) w') := fun w' h => by
      refine ⟨none, 0, ?_, ?_, by unfold maxLen; omega, ?_, h⟩
      · unfold opnD dimD boxC; rw [if_neg hE, if_neg hE, if_neg hE]; rfl
      · unfold opnD; rw [if_neg hE]; exact Nat.le_refl _
      · unfold opnD; rw [if_neg hE]; exact fun h1 => absurd h1 (by simp)
    generalize hQ : GivesO R w = Q at *
    clear hQ
    rw [h0]
    go_enter Try.func73, Try.ntmps73
    go_wp2
    go_ret3
    exact HG.out _ (Below.refl _ _)
  · obtain ⟨ad, rfl, hadb, hcell, hlies⟩ := hr.at (k := 0) h0
    have hcell' : w.cell? ad = some (.slice (R.getD 0 row0).a (R.getD 0 row0).l.length (R.getD 0 row0).c) := by rw [add_zero'] at hcell; exact hcell
    have KB := Lib.hid (vec_Box (some ad) R c (dimR R) w hr hR hlr hcr)
    have HG := Lib.hid (fun w' (A1 A2 : Option Addr) (h : GivesO R w (.returned (.tuple #[.slice A1 (opnD R).length 0, .int .i64 (dimD R), .int .i64 (boxC R (dimR R))])) w') => h)
    have HQ : Hid (∀ w' A' c', (opnD R).length ≤ c' → c' ≤ maxLen → Lies w' w'.heap.size A' (opnD R) → Below w.heap.size w w' → GivesO R w (.returned (.tuple #[.slice A' (opnD R).length c', .int .i64 (dimD R), .int .i64 (boxC R (dimR R))])) w') := fun w' A' c' g1 g2 g3 g4 => ⟨A', c', rfl, g1, g2, g3, g4⟩
    clear HG
    have hdim : (R.getD 0 row0).l.length = dimR R := rfl
    rw [hdim] at hcell hcell'
    have hg1 : (0 : Int) < (R.length : Int) := by omega
    have hz : ((R.length : Int) == 0) = false := by rw [beq_eq_false_iff_ne]; omega
    unfold GivesBox at KB
    by_cases hE : boxE R (dimR R) = true
    · have hO : opnD R = openL (boxLo R (dimR R)) (boxHi R (dimR R)) := by unfold opnD; rw [if_pos hE]; rfl
      have hD : dimD R = dimR R := by unfold dimD; rw [if_pos hE]
      have hC : boxC R (dimR R) = 0 := by unfold boxC; rw [if_pos hE]
      have hl := box_lens hE
      have hd := box_dim hE
      rw [hO, hD, hC] at HQ
      rw [hC] at KB
      generalize GivesO R w = Q at *
      have KO := Lib.hid (fun W A1 A2 c1 c2 (h1 : Lies W W.heap.size A1 (boxLo R (dimR R))) (h2 : Lies W W.heap.size A2 (boxHi R (dimR R))) => vec_Open A1 A2 (boxLo R (dimR R)) (boxHi R (dimR R)) c1 c2 W h1 h2 (by omega) (by omega))
      unfold GivesI at KO
      generalize openL (boxLo R (dimR R)) (boxHi R (dimR R)) = O at *
      clear hr hlies hR hO hE hD hC
      rw [hl.1, hl.2] at KB KO
      generalize boxLo R (dimR R) = LO at *
      generalize boxHi R (dimR R) = HI at *
      generalize dimR R = D at *
      generalize R.length = N at *
      go_enter Try.func73, Try.ntmps73
      go_wp2_with fail
      refine KB.out.mono ?_
      rintro e w1 ⟨A1, c1, A2, c2, rfl, q1, q2, q3, q4, b1⟩
      have HB1 := Lib.hid b1
      have H3 := Lib.hid q3
      have H4 := Lib.hid q4
      clear q3 q4 b1
      go_wp2_with fail
      refine (KO.out _ _ _ _ _ H3.out H4.out).mono ?_
      rintro e w2 ⟨A3, c3, rfl, r1, r2, r3, r4⟩
      go_wp2
      go_ret3
      exact HQ.out _ _ _ r1 r2 r3 (HB1.out.trans (r4.mono HB1.out.size))
    · have hO : opnD R = [] := by unfold opnD; rw [if_neg hE]
      have hD : dimD R = 0 := by unfold dimD; rw [if_neg hE]
      have hC : boxC R (dimR R) = 80 := by unfold boxC; rw [if_neg hE]
      rw [hO, hD, hC] at HQ
      rw [hC] at KB
      generalize GivesO R w = Q at *
      clear hr hlies hR hO hE hD hC
      generalize boxLo R (dimR R) = LO at *
      generalize boxHi R (dimR R) = HI at *
      generalize dimR R = D at *
      generalize R.length = N at *
      go_enter Try.func73, Try.ntmps73
      go_wp2_with fail
      refine KB.out.mono ?_
      rintro e w1 ⟨A1, c1, A2, c2, rfl, q1, q2, q3, q4, b1⟩
      have HB1 := Lib.hid b1
      clear q3 q4 b1
      go_wp2
      go_ret3
      exact HQ.out _ none 0 (Nat.le_refl _) (by unfold maxLen; omega) (fun h1 => absurd h1 (by simp)) HB1.out

/-! ### column -/
set_option maxHeartbeats 1000000 in
theorem cut_column (Ao A : Option Addr) (o l : List Int) (co c d : Nat) (a t : Int) (w : World) (ho : Lies w w.heap.size Ao o) (hA : LiesU w w.heap.size A l) (hu : ∀ x ∈ l, U64 x) (hl : (l.length : Int) ≤ 9223372036854775807) (hat : I64 a) (hd : d ≤ 8) (hol : o.length ≤ 8) (hod : ∀ x ∈ o, 0 ≤ x ∧ x < d) (h0 : 0 < o.length) :
    Calls Try.prog 75 #[.slice Ao o.length co, .int .i64 d, .slice A l.length c, .int .i64 a, .int .i64 t] w (GivesC (colD o d l a t) w) := by
  have KB := Lib.hid (draw_bound A l c a o.length t w hA hu hl (by unfold U64; omega) hat)
  have hlt := bnd_lt (l := l) (a := a) (n := o.length) (t := t) (by omega)
  have HV : Hid (colD o d l a t = if (bnd l a o.length t).2.2 = 0 then (unitC d (o.getD (bnd l a o.length t).1.toNat 0).toNat, (bnd l a o.length t).2.1, 0) else ([], 0, (bnd l a o.length t).2.2)) := rfl
  generalize colD o d l a t = Z at *
  generalize bnd l a o.length t = F at *
  obtain ⟨x, p, e⟩ := F
  simp only at HV hlt
  obtain ⟨k, rfl⟩ : ∃ k : Nat, x = k := ⟨x.toNat, by omega⟩
  rw [show ((k : Int)).toNat = k from by omega] at HV
  have hk : k < o.length := by omega
  have hox := hod _ (mem_getD hk)
  have HLI := Lib.hid (fun W (h : Below w.heap.size w W) => (ho.below h).at (k := k) hk)
  obtain ⟨j, hj⟩ : ∃ j : Nat, o.getD k 0 = j := ⟨(o.getD k 0).toNat, by omega⟩
  rw [hj] at HV hox HLI
  rw [show ((j : Int)).toNat = j from by omega] at HV
  have hwo : IntKind.u64.wrap (o.length : Int) = (o.length : Int) := by simp only [u64w]; omega
  have hkl : (k : Int) < (o.length : Int) := by omega
  have hjd : (j : Int) < (d : Int) := by omega
  clear ho hA hu hod hlt
  generalize l.length = N at *
  generalize o.length = M at *
  go_enter Try.func75, Try.ntmps75
  go_wp2_with fail
  refine KB.out.mono ?_
  rintro e1 w1 ⟨rfl, b1⟩
  have HB := Lib.hid b1
  clear b1
  by_cases he : e = 0
  · subst he
    obtain ⟨ad, rfl, hb0, hc0⟩ := HLI.out _ HB.out
    go_wp2_with (at_make; refine make_ints rfl (.tmp 31) (.tmp 31) rfl d rfl rfl (by omega) ?_; intro w2 ho2 hb2; have hc2 := (hb2.cell (by rw [add_block]; exact Nat.lt_of_lt_of_le hb0 HB.out.size)).trans hc0; have hfr := ho2.free j; have hcl := ho2.cell (k := j) (by simp; omega))
    go_ret3
    have ho3 := ho2.set (k := j) (by simp; omega) 1
    rw [show Z = (unitC d j, p, 0) from HV.out.trans (if_pos trivial)]
    refine ⟨_, d, by rw [show (unitC d j, p, (0 : Int)).1.length = d from unitC_len d j]; rfl, by rw [show (unitC d j, p, (0 : Int)).1.length = d from unitC_len d j]; exact Nat.le_refl _, by unfold maxLen; omega, ho3.lies, (fun _ e => by cases e; exact HB.out.size), ?_⟩
    exact (HB.out.trans (hb2.mono HB.out.size)).setCell (p := ⟨w1.heap.size, j, none⟩) HB.out.size _
  · have hne : (e != 0) = true := by simpa using he
    go_wp2
    go_ret3
    rw [show Z = ([], 0, e) from HV.out.trans (if_neg he)]
    exact givesC_nil HB.out
end Go.Proofs.Ytpjgnghmhbkmkaa
