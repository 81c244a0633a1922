import Derived.Test.YtehekdahlnpldaaPickG

/-! Layer 7: picked. -/
namespace Go.Proofs.Ytehekdahlnpldaa
open Go.RowKit Go.Shelf Go.Maps
set_option linter.unusedVariables false
set_option linter.unusedSimpArgs false
attribute [local go_sem] Oper.semAt_some

theorem imap_keeps {W W' : World} {B n : Nat} {f : Int → Int} (h : IMap W B n f) (hk : KeepsOthers W W') : W'.heap[B]? = W.heap[B]? := by
  obtain ⟨D, ⟨es, clock, hb, _⟩, _⟩ := h
  exact (hk.same _ _ hb rfl).trans hb.symm
set_option maxRecDepth 100000 in
set_option maxHeartbeats 4000000 in
theorem pick_picked (A : Option Addr) (p : List Int) (c N : Nat) (w : World) (hA : Lies w w.heap.size A p) (hN : N ≤ 256) (hp : picksOk N p) (hl : p.length ≤ N) :
    Calls Try.prog 59 #[.slice A p.length c] w (GivesN (plyV p) w) := by
  have HA := Lib.hid (fun W (h : Below w.heap.size w W) => hA.below h)
  have HP := Lib.hid (fun k (h : k < p.length) => hp k h)
  have HF := Lib.hid (fun k (h : k ≤ p.length) => ply_range hp k h)
  have HST : Hid (∀ k, ply p (k + 1) = swp (ply p k) k (k + p.getD k 0)) := fun k => rfl
  have HUP := Lib.hid (plyV_up p rfl)
  clear hA hp
  generalize hM : p.length = M at *
  have HM := Lib.hid hM
  clear hM
  have hmm := @run_makeMap Try.prog
  have m1 := World.ownsMap_made w Try.prog 3 (plainElem (H := Unit) Try.prog 3)
  have M1 : Hid (IMap (w.alloc (.map #[] 0)) w.heap.size 0 (fun x => x)) := ⟨_, m1, vw_nil⟩
  have B1 : Hid (Below w.heap.size w (w.alloc (.map #[] 0))) := ((Below.refl _ w).alloc (Nat.le_refl _) _)
  clear m1
  obtain ⟨i0, hi, hz0, hz1, hz2⟩ := info_parts infoI
  refine (callsIn_wide (n := 5)).1 ?_
  refine callsIn_of_wp_marks Try.func59 rfl trivial ?_ rfl
  simp only [Try.ntmps59, List.size_toArray, List.length_cons, List.length_nil, Nat.reduceAdd, Nat.reduceSub, Array.replicate_succ, Array.replicate_zero, List.push_toArray, List.append_toArray, List.nil_append, List.cons_append]
  gi_wp2
  gi_loopw [11] (fun i wr => ∃ k : Nat, k ≤ M ∧ i = .int .i64 k ∧ Hid (IMap wr w.heap.size (2 * k) (ply p k)) ∧ Hid (Below w.heap.size w wr)) (fun i _ => M - (intOf i).toNat)
  case atStart => exact ⟨0, by omega, rfl, M1.out, B1.out⟩
  case round =>
    obtain ⟨k, hk, rfl, HI, HB⟩ := hrel
    by_cases hlt : k < M
    · have hlg : (k : Int) < (M : Int) := by omega
      obtain ⟨ad, rfl, hab, hcell⟩ := (HA.out wr HB.out).at (k := k) (by have := HM.out; omega)
      have hx := HP.out k hlt
      have hf1 := HF.out k hk k (by omega) (by omega)
      have hf2 := HF.out k hk (k + p.getD k 0) (by omega) (by omega)
      have KE := Lib.hid (list_exchange w.heap.size (2 * k) (ply p k) k (k + p.getD k 0) wr HI.out (by unfold I64; omega) (by unfold I64; omega) (by unfold I64; omega) (by unfold I64; omega) (by omega))
      have HS := Lib.hid (HST.out k)
      generalize p.getD k 0 = x at *
      clear hf1 hf2
      gi_wp2_with (refine ⟨trivial, ?_⟩; gi_at_call 99; refine (callsIn_wide.2 KE.out).mono ?_; rintro e w2 ⟨rfl, i2, t2⟩)
      go_roundw
      case rel => exact ⟨k + 1, by omega, by go_num, by show IMap _ _ _ _; rw [HS.out]; exact i2, HB.out.trans (below_turned t2 (Nat.le_refl _))⟩
      case measure => first | (simp [intOf]; done) | (simp [intOf]; omega)
    · obtain rfl : k = M := by omega
      have hsz := HB.out.size
      gi_wp2_with (first | (gi_at_make; refine wpListIn_make_own wr rfl (.const (.int .i64 0)) (.tmp 24) 24 rfl w.heap.size 3 i0 (.int .i64 0) 1 Try.underlying24 hi hz0 hz1 .i64 .i64 k k rfl rfl rfl (by rw [hz2]; omega) (by unfold maxLen; omega) hsz ?_; intro wm hom hgm) | (refine ⟨trivial, ?_⟩; gi_at_call 100; refine (first_in _ w.heap.size k _).mono ?_; rintro e w2 ⟨rfl, rfl⟩))
      have b0 : Below wr.heap.size wr wm := (Below.refl _ _).grown hgm (Nat.le_refl _) (fun j hj => by cases hj)
      have hzm := b0.size
      have hlB := HI.out.lt
      have iM := HI.out.below b0 hlB
      have bw : Below w.heap.size w wm := HB.out.trans (b0.mono hsz)
      have xB := Boxed.new wm 24 (.slice (some ⟨wr.heap.size, 0, none⟩) 0 k)
      have xL := Boxed.new (wm.alloc (.cells #[.slice (some ⟨wr.heap.size, 0, none⟩) 0 k] 24)) 115 (.map (some w.heap.size))
      have xK := Boxed.new ((wm.alloc (.cells #[.slice (some ⟨wr.heap.size, 0, none⟩) 0 k] 24)).alloc (.cells #[.map (some w.heap.size)] 115)) 3 (.int .i64 k)
      rw [World.size_alloc] at xL
      rw [World.size_alloc, World.size_alloc] at xK
      have iL := (iM.below (((Below.refl wm.heap.size wm).alloc (Nat.le_refl _) (.cells #[.slice (some ⟨wr.heap.size, 0, none⟩) 0 k] 24)).alloc (by simp) (.cells #[.map (some w.heap.size)] 115)) (by omega)).below ((Below.refl _ _).alloc (Nat.le_refl _) (.cells #[.int .i64 k] 3)) (by simp; omega)
      have bL := ((bw.alloc (by omega) (.cells #[.slice (some ⟨wr.heap.size, 0, none⟩) 0 k] 24)).alloc (by simp; omega) (.cells #[.map (some w.heap.size)] 115)).alloc (by simp; omega) (.cells #[.int .i64 k] 3)
      have oL := ((hom.alloc (.cells #[.slice (some ⟨wr.heap.size, 0, none⟩) 0 k] 24)).alloc (.cells #[.map (some w.heap.size)] 115)).alloc (.cells #[.int .i64 k] 3)
      have xB2 := (xB.alloc (.cells #[.map (some w.heap.size)] 115)).alloc (.cells #[.int .i64 k] 3)
      have xL2 := xL.alloc (.cells #[.int .i64 k] 3)
      have szL : ((((wm.alloc (.cells #[.slice (some ⟨wr.heap.size, 0, none⟩) 0 k] 24)).alloc (.cells #[.map (some w.heap.size)] 115)).alloc (.cells #[.int .i64 k] 3)).heap.size) = wm.heap.size + 3 := by simp
      have hUP := HUP.out
      generalize hpl : ply p k = f at *
      clear hpl HF HST HP xB xL iM bw hom HM HA hlt
      generalize (((wm.alloc (.cells #[.slice (some ⟨wr.heap.size, 0, none⟩) 0 k] 24)).alloc (.cells #[.map (some w.heap.size)] 115)).alloc (.cells #[.int .i64 k] 3)) = wL at *
      refine wpIn_rangeFunc_ownG rfl (by omega) (gf := 128) (lb := #[.pointer (some ⟨wm.heap.size + 1 + 1, 0, none⟩), .pointer (some ⟨wm.heap.size + 1, 0, none⟩)]) rfl trivial (enters_of Try.func128 (by kernel_rfl) rfl)
        (first_stops 4 w.heap.size (wm.heap.size + 1) (wm.heap.size + 1 + 1) (2 * k) k f wL (by omega) (by omega) (by omega) (by omega) xK.cell xL2 iL) kpl_t (kpl_b (by omega) (by omega)) (Below.refl _ _) (fun _ => rfl)
        (fun pre W => (∃ v, Boxed W wm.heap.size 24 v ∧ W.ownsRow w.heap.size 3 1 v pre.length (litI pre) ∧ True) ∧ ((IMap W w.heap.size (2 * k) f ∧ Boxed W (wm.heap.size + 1) 115 (.map (some w.heap.size))) ∧ Below w.heap.size w W))
        (fun _ _ _ => False)
        (OwnFrom.and (Own.from (holdsRow_own w.heap.size wm.heap.size 24 3 1 (fun pre => pre.length) (fun pre => litI pre) (fun _ _ => True)) _) (OwnFrom.and (fun s W W' row hs hg hr => ⟨hs.1.same (hg.block _ hs.1.lt (fun e => by have := (hr _ e.symm).1; omega)), hs.2.kept hg (fun e => by have := (hr _ e.symm).1; omega)⟩) (ownFrom_below (Nat.le_refl _) (by omega))))
        (fun _ _ _ _ _ hs _ _ => hs)
        ⟨⟨_, xB2, oL, trivial⟩, ⟨iL, xL2⟩, bL⟩
        (fun x => { tmps := #[Value.slice A k c, undef, Value.slice none 0 0, Value.map (some w.heap.size), u4, u5,
          Value.pointer (some { block := wm.heap.size, off := 0 }), .int .i64 x, Value.map (some w.heap.size),
          Value.slice A k c, Value.int IntKind.i64 ↑k, Value.int IntKind.i64 ↑k, Value.bool false, u13, u14, u15, u16,
          u17, u18, u19, u20, u21, u22, Value.slice A k c, Value.int IntKind.i64 ↑k,
          Value.slice (some { block := wr.heap.size, off := 0 }) 0 k, Value.map (some w.heap.size), Value.slice A k c,
          Value.int IntKind.i64 ↑k,
          Value.func (Fn.func 128) #[]
            #[Value.pointer (some { block := wm.heap.size + 1 + 1, off := 0 }),
              Value.pointer (some { block := wm.heap.size + 1, off := 0 })],
          .int .i64 x, undef, undef, undef, undef, undef], defers := [] }) ?assign ?body ?done ?stop
      case assign =>
        intro l x W K hK
        gi_wp2
        exact hK
      case body =>
        rintro l pre x W ⟨⟨v, hv, hrow, _⟩, ⟨hM, hBl⟩, hB⟩ hlt
        have hc := hv.cell
        have hzW := hB.size
        gi_wp2_with (gi_at_builtin; refine wpListIn_append_own _ rfl _ _ 24 rfl w.heap.size 3 i0 (.int .i64 0) 1 8 Try.underlying24 hi hz0 hz1 hz2 rfl (by decide) _ _ _ rfl (hrow.alloc _) ⟨W.heap.size, 0, none⟩ 1 1 [.int .i64 x] rfl rfl (cell_one_new _ _ _) (by simp [Value.oneCell']) (by unfold maxLen; omega) (by omega) (by simp; omega) ?_; intro v' w1 hown' hgrow _; obtain ⟨g', cap', rfl⟩ := ownsRow_succ hown'; obtain ⟨hv1, hv2, hr2, hk2, hb2⟩ := hv.appended (by decide) hrow hB.size (by omega) hown' hgrow; have hc1 := hv1.cell; have hf1 := hv1.frozen; have hBl1 := (hBl.alloc _).kept hgrow (hBl.not_row (by decide) hrow))
        have hBl2 := hBl1.kept (grownBy_setCell' w1 wm.heap.size (.slice (some ⟨g', 0, none⟩) (pre.length + 1) cap')) (by simp)
        have eB := imap_keeps hM hk2
        exact ⟨hk2.from _, ⟨eB, hBl2.trans hBl.symm⟩, ⟨⟨_, hv2, by rw [List.length_append, ← litI_snoc]; exact hr2, trivial⟩, ⟨hM.same eB, hBl2⟩, hB.trans hb2⟩⟩
      case done =>
        rintro D ys W hD rfl ⟨⟨v, hv, hrow, _⟩, ⟨hM, hBl⟩, hB⟩ hK
        have ho2 := ownsRow_putObj hrow (.deferred none) hK rfl
        obtain ⟨A', c', rfl, g1, g2, g3⟩ := lies_ownI ho2
        have HNW : New w A' := new_of_own ho2 (Nat.le_refl _)
        have hc := hv.cell
        have hlen := upF_len f k
        have bz := hB.trans (belowK_b (w := w) (Nat.le_refl _) W D _ (.deferred none) (by omega) hK rfl rfl)
        gi_wp2
        refine ⟨by simp, .inl ⟨_, _, rfl, run_takeDeferred hK, ?_⟩⟩
        exact ⟨_, results_tmp rfl _ _ _, A', c', by rw [hUP, hlen]; rfl, by rw [hUP]; exact g1, g2, by rw [hUP]; exact g3, HNW, bz⟩
      case stop =>
        rintro D c pre W _ _ h _
        exact h.elim
end Go.Proofs.Ytehekdahlnpldaa
