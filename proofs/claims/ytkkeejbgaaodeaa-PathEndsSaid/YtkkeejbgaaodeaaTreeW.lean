import Derived.Test.YtkkeejbgaaodeaaTreeV
import Derived.WalkMore
import Derived.ScopeJumps
import Derived.Outline

/-! Layer 10: tree.Grow: its walk. -/
namespace Go.Proofs.Ytkkeejbgaaodeaa
open Go.RowKit
set_option linter.unusedVariables false
set_option linter.unusedSimpArgs false

theorem TG.emptyS {w0 w : World} {vN vS : Value} {N : List TN} (h : TG w0 w vN N vS []) : ∃ A c, vS = .slice A 0 c := by
  rcases h.stack.2 with ⟨e, _⟩ | ⟨g, cap, cur, e, _⟩
  · exact ⟨_, _, e⟩
  · exact ⟨_, _, e⟩
theorem len_snoc (N : List TN) (x : TN) : (N ++ [x]).length = N.length + 1 := by simp
theorem map_getD_cnt (N : List TN) (j : Nat) : (N.map cnt).getD j tn0 = cnt (N.getD j tn0) := by
  rw [List.getD_eq_getElem?_getD, List.getD_eq_getElem?_getD, List.getElem?_map]
  cases N[j]? <;> rfl
theorem setR_map (ro x : Int) (N : List TN) : (setR ro x N).map cnt = setR ro x (N.map cnt) := by
  unfold setR setRt
  split
  · rfl
  · rw [List.map_set, map_getD_cnt]
    rfl
theorem setR_nat (m : Nat) (x : Int) (N : List TN) : setR (m : Int) x N = setRt N m x := by
  unfold setR
  rw [if_neg (by omega), Int.toNat_natCast]
theorem setR_snoc (ro : Int) (N : List TN) (n : Nat) : (setR ro N.length N ++ [lfN n]).map cnt = setR ro (N.map cnt).length (N.map cnt) ++ [lfN n] := by
  rw [List.map_append, setR_map, List.length_map]
  rfl
theorem setR_head (ro : Int) (N : List TN) (n : Nat) (Ac : Option Addr) (cc : Nat) (Z : DZ) : (setR ro N.length N ++ [(⟨Ac, cc, Z.1, Z.2.1, (N.length : Int) + 1, 0, n⟩ : TN)]).map cnt = setR ro (N.map cnt).length (N.map cnt) ++ [headN Z n (N.map cnt).length] := by
  rw [List.map_append, setR_map, List.length_map]
  rfl
theorem TG.right' {w0 w : World} {vS : Value} {N : List TN} {L : List WA} {g c m n : Nat} (h : TG w0 w (.slice (some ⟨g, 0, none⟩) (N.length + 1) c) (N ++ [lfN n]) vS L) (hm : m < N.length) (hN : N.length ≤ 1000000) :
    TG w0 (w.setCell ⟨g, m * 5 + 3, none⟩ (.int .i64 (N.length : Int))) (.slice (some ⟨g, 0, none⟩) (N.length + 1) c) (setRt N m N.length ++ [lfN n]) vS L := by
  rw [← len_snoc N (lfN n)] at h ⊢
  exact h.right hm hN
theorem TG.cut' {w0 w : World} {vS : Value} {N : List TN} {L : List WA} {g c n nl : Nat} (hnl : N.length = nl) (h : TG w0 w (.slice (some ⟨g, 0, none⟩) (nl + 1) c) (N ++ [lfN n]) vS L) (hN : nl ≤ 1000000) (Ac : Option Addr) (cc : Nat) (co : List Int) (lv : Int)
    (hoff : OffN w0.heap.size w (.slice (some ⟨g, 0, none⟩) (nl + 1) c) vS ⟨Ac, cc, co, lv, 0, 0, n⟩) (hok : okT [⟨Ac, cc, co, lv, 0, 0, n⟩]) :
    TG w0 (((w.setCell ⟨g, nl * 5, none⟩ (.slice Ac co.length cc)).setCell ⟨g, nl * 5 + 1, none⟩ (.int .i64 lv)).setCell ⟨g, nl * 5 + 2, none⟩ (.int .i64 ((nl : Int) + 1))) (.slice (some ⟨g, 0, none⟩) (nl + 1) c) (N ++ [⟨Ac, cc, co, lv, (nl : Int) + 1, 0, n⟩]) vS L := by
  subst hnl
  rw [← len_snoc N (lfN n)] at h hoff ⊢
  exact h.cut hN Ac cc co lv hoff hok
/-- a leaf more onto the nodes, and its row -/
theorem app_node' {w0 W : World} {ops : Array Oper} {rest : List Oper} {o : Oper} {a : Act} {Q : Exit → Act → World → Prop} (hgd : o.guard = none) (s x : Operand)
    (ho : o.op = .call { callee := .builtin .append, args := #[s, x], argTypes := #[22, 22] })
    (vN vS : Value) (N : List TN) (L : List WA) (n g : Nat) (hs : a.eval s = vN) (hx : a.eval x = .slice (some ⟨g, 0, none⟩) 1 1) (hT : TG w0 W vN N vS L) (hb : Box W g #[.slice none 0 0, .int .i64 0, .int .i64 0, .int .i64 0, .int .i64 n] 39)
    (hN : N.length ≤ 1000000) (hn : n ≤ 100000)
    (h : ∀ g' c' w', Hid (TG w0 w' (.slice (some ⟨g', 0, none⟩) (N.length + 1) c') (N ++ [lfN n]) vS L) → Hid (∀ k cs T, T ≠ 39 → Box W k cs T → Box w' k cs T) → wpList Try.prog ops Q rest (a.put o.dst (.slice (some ⟨g', 0, none⟩) (N.length + 1) c')) w') : wpList Try.prog ops Q (o :: rest) a W := by
  refine app_node hgd s x ho vN vS N L n g hs hx hT hb hN hn ?_
  intro v' w' h1 h2
  obtain ⟨g', c', e, _⟩ := h1.row (by simp)
  rw [len_snoc] at e
  subst e
  exact h g' c' w' h1 h2
/-- the cells of a row of nodes, and that they may be stored to -/
theorem TG.row' {w0 w : World} {vS : Value} {N : List TN} {L : List WA} {g c n nl : Nat} (hnl : N.length = nl) (h : TG w0 w (.slice (some ⟨g, 0, none⟩) (nl + 1) c) (N ++ [lfN n]) vS L) : nl + 1 ≤ c ∧ (∀ i, w.frozen? ⟨g, i, none⟩ = false) ∧ (∀ m, m < nl → ∃ u, w.cell? ⟨g, m * 5 + 3, none⟩ = some u) ∧ w.cell? ⟨g, nl * 5, none⟩ = some (.slice none 0 0) ∧ w.cell? ⟨g, nl * 5 + 1, none⟩ = some (.int .i64 0) ∧ w.cell? ⟨g, nl * 5 + 2, none⟩ = some (.int .i64 0) := by
  subst hnl
  obtain ⟨g', c', e, hc, _, _, _, hf, hcell⟩ := h.row (by simp)
  rw [len_snoc] at e hc
  cases e
  have hgt : (N ++ [lfN n]).getD N.length tn0 = lfN n := by simp [List.getD]
  obtain ⟨c0, c1, c2, c3, c4⟩ := hcell N.length (by simp)
  rw [hgt] at c0 c1 c2
  refine ⟨hc, hf, fun m hm => ?_, c0, c1, c2⟩
  obtain ⟨_, _, _, d3, _⟩ := hcell m (by simp; omega)
  exact ⟨_, d3⟩
theorem TG.shape {w0 w : World} {vN vS : Value} {N : List TN} {L : List WA} (h : TG w0 w vN N vS L) : ∃ A c, vN = .slice A N.length c := by
  rcases h.nodes.2 with ⟨e, h0⟩ | ⟨g, cap, cur, e, _⟩
  · exact ⟨none, 0, by rw [e, h0]⟩
  · exact ⟨_, _, e⟩
def lenV : Value → Nat
  | .slice _ n _ => n
  | _ => 0
set_option maxRecDepth 100000 in
set_option maxHeartbeats 16000000 in
theorem tree_Grow (Ar A : Option Addr) (R : List Row) (l : List Int) (cr c : Nat) (k a t : Int) (w : World) (hr : LiesR w w.heap.size Ar R) (hR : OkR R) (hA : LiesU w w.heap.size A l) (hu : ∀ x ∈ l, U64 x) (hl : (l.length : Int) ≤ 9223372036854775807)
    (hat : I64 a) (hlr : (R.length : Int) ≤ 9223372036854775807) (hcr : R.length ≤ cr) :
    Calls Try.prog 20 #[.int .i64 k, .slice Ar R.length cr, .slice A l.length c, .int .i64 a, .int .i64 t] w (GivesG (groG k R l a t) w) := by
  have HX := Lib.hid ((Kpc.start w).alloc #[.int .i64 0, .slice none 0 0] 24)
  obtain ⟨y0, y1⟩ := box_cut HX.out.head
  by_cases h64 : 64 < R.length
  · have hv : groG k R l a t = (0, [], 0, 3) := by unfold groG; rw [if_pos h64]
    rw [hv]
    have h64' : (64 : Int) < (R.length : Int) := by omega
    clear hr hR hA hu hv
    generalize R.length = M at *
    generalize l.length = ML at *
    go_enter Try.func20, Try.ntmps20
    go_wp2
    go_step3
    go_wp2
    obtain ⟨⟨k0, k1⟩, bz⟩ := Kpc.set2 HX.out (Nat.le_refl _) (.int .i64 0) (.slice none 0 0)
    rw [Exit.noGoto_ret]
    refine bodyPost_ret (v := .tuple #[.agg #[.int .i64 0, .slice none 0 0], .int .i64 0, .int .i64 3]) ?_ rfl ?_
    · simp [results, Try.results20, go_sem, k0, k1, y0, y1]
    · exact givesG_no (by first | exact bz | exact HX.out.2.1)
  · have hle : R.length ≤ 64 := by omega
    obtain ⟨g1, g2, g3⟩ := groG_run (k := k) (t := t) (a := a) (l := l) hle
    obtain ⟨Z, hZ⟩ : ∃ Z, Z = rnN k l t (max 1 (lgT R.length)) 128 [] [(R, 0, -1)] a := ⟨_, rfl⟩
    obtain ⟨dp, hdp⟩ : ∃ dp, dp = max 1 (lgT R.length) := ⟨_, rfl⟩
    rw [← hZ] at g1 g2 g3
    rw [← hdp] at hZ
    have HG1 := Lib.hid g1
    have HG2 := Lib.hid g2
    have HG3 := Lib.hid g3
    have HZ := Lib.hid hZ
    have HT0 := Lib.hid (TG.start w Ar R cr hr hR hcr)
    have HR0 := Lib.hid hr
    have KL := Lib.hid (fun W => num_log (R.length : Int) (by unfold I64; omega) W)
    have HLG := Lib.hid (fun k h => log_lgT (n := (R.length : Int)) (k := k) h (by omega))
    have hdp7 : 1 ≤ dp ∧ dp ≤ 6 := by
      rw [hdp]
      unfold lgT
      split
      · omega
      · split
        · omega
        · split
          · omega
          · split
            · omega
            · split
              · omega
              · split <;> omega
    have HDP : Hid (max (1 : Int) ((lgT (R.length : Int) : Nat) : Int) = (dp : Int)) := by
      show _ = _
      rw [hdp]
      omega
    have KD : Hid (∀ W (h : Below w.heap.size w W) (xa : Option Addr) (xc : Nat) (xR : List Row) (xd : Nat) (xro b : Int), PtsOk w W ⟨xa, xc, xR, xd, xro⟩ → xR.length ≤ 64 → I64 b → Calls Try.prog 46 #[.int .i64 k, .slice xa xR.length xc, .slice A l.length c, .int .i64 b, .int .i64 t] W (GivesD (drw k xR l b t) W)) := fun W h xa xc xR xd xro b hp h4 hb =>
      cut_Draw xa A xR l xc c k b t W (hp.lies h) hp.1 ((hA.below h).mono h.size) hu hl hb (by omega) hp.2.1
    have KP : Hid (∀ W (h : Below w.heap.size w W) (xa : Option Addr) (xc : Nat) (xR : List Row) (xd : Nat) (xro : Int) (Ac : Option Addr) (co : List Int) (cc : Nat) (lv : Int), PtsOk w W ⟨xa, xc, xR, xd, xro⟩ → xR.length ≤ 64 → Lies W W.heap.size Ac co → (co.length : Int) ≤ 9223372036854775807 → co.length ≤ cc → splC co lv xR = 0 → Calls Try.prog 47 #[.agg #[.slice Ac co.length cc, .int .i64 lv], .slice xa xR.length xc] W fun e w' => ∃ g1 g2 : Nat, e = .returned (.tuple #[.slice (some ⟨g1, 0, none⟩) (selR xR (lft co lv xR)).length (selR xR (lft co lv xR)).length, .slice (some ⟨g2, 0, none⟩) (selR xR (rgt co lv xR)).length (selR xR (rgt co lv xR)).length, .int .i64 0]) ∧ W.heap.size ≤ g1 ∧ W.heap.size ≤ g2 ∧ OwnR w' g1 (selR xR (lft co lv xR)) ∧ OwnR w' g2 (selR xR (rgt co lv xR)) ∧ Below W.heap.size W w') := fun W h xa xc xR xd xro Ac co cc lv hp h4 hl1 hl2 hl3 h0 => by
      rw [selR_len, selR_len]
      exact tree_parted Ac xa co xR cc xc lv W hl1 (hp.lies h) hp.1 hl2 hl3 (by omega) h0
    have h64' : ¬ (64 : Int) < (R.length : Int) := by omega
    clear hr hR hA hu g1 g2 g3 hZ hdp
    generalize hM : R.length = M at *
    generalize hML : l.length = ML at *
    have HM := Lib.hid hM
    clear hM
    have HML := Lib.hid hML
    clear hML
    go_enter Try.func20, Try.ntmps20
    go_wp2
    go_step3
    go_upto_region 3 with fail
    go_cut [13] from 28 to 31 (fun s13 wc => s13 = .int .i64 dp ∧ wc = w.alloc (.cells #[.int .i64 0, .slice none 0 0] 24))
    case first =>
      go_wp2_with fail
      refine (KL.out _).mono ?_
      rintro e w1 ⟨kl, hkl, rfl, rfl⟩
      obtain rfl := HLG.out kl hkl
      have hdp2 := HDP.out
      go_wp2
      all_goals
        go_meet
        exact ⟨by congr 1; omega, rfl⟩
    case rest =>
    obtain ⟨rfl, rfl⟩ := hcut
    go_wp2
    go_step3
    go_wp2
    go_loopw [3, 14, 15] (fun av nv sv wr => ∃ (N : List TN) (L : List WA) (b : Int) (f : Nat), av = .int .i64 b ∧ Hid (TG w wr nv N sv L) ∧ f + N.length = 128 ∧ Hid (I64 b) ∧ Hid (Z = rnN k l t dp f (N.map cnt) (stk L) b) ∧ Hid (∀ x ∈ L, x.R.length ≤ 64 ∧ x.d ≤ dp ∧ (x.ro = -1 ∨ ∃ m : Nat, x.ro = (m : Int) ∧ m < N.length)) ∧ L.length ≤ N.length + 1) (fun _ nv _ _ => 128 - lenV nv)
    case atStart =>
      refine ⟨[], [⟨Ar, cr, R, 0, -1⟩], a, 128, rfl, HT0.out, rfl, hat, HZ.out, fun x hx => ?_, by simp⟩
      rw [List.mem_singleton.1 hx]
      exact ⟨by have := HM.out; show R.length ≤ 64; omega, Nat.zero_le _, .inl rfl⟩
    case round =>
      obtain ⟨N, L, b, f, rfl, HT, hfN, HB64, HZ2, HLS, hLN⟩ := hrel
      obtain ⟨f, rfl⟩ : ∃ g, f = g + 1 := by
        cases f with
        | zero =>
          exfalso
          have h1 := HZ2.out
          have h2 := HG1.out
          have h3 : Z = ([tn0], 0, 1) := h1
          rw [h3] at h2
          rcases h2 with h | h
          · cases h
          · cases h
        | succ g => exact ⟨g, rfl⟩
      rcases List.eq_nil_or_concat L with rfl | ⟨L', x, rfl⟩
      · have hZe : Z = (N.map cnt, b, 0) := HZ2.out
        have hbx := HG2.out (by rw [hZe])
        have hM0 : 0 < R.length := (fit_of hbx).1
        obtain ⟨A5, c5, rfl⟩ := HT.out.emptyS
        obtain ⟨adR, eR, _, hcR, _⟩ := (HR0.out.below HT.out.below).at (k := 0) hM0
        subst eR
        rw [show adR.add 0 = adR from rfl] at hcR
        have HDIM : Hid (((R.getD 0 row0).l.length : Int) = (dimR R : Int)) := rfl
        have hM1 : 0 < M := by have := HM.out; omega
        have hM2 : (0 : Int) < (M : Int) := by omega
        have HV : Hid (groG k R l a t = ((dimR R : Int), N.map cnt, b, 0)) := by
          show _ = _
          rw [HG3.out, if_pos (by rw [hZe]), hZe]
        obtain ⟨vA, vc, rfl, _⟩ := HT.out.lies (Nat.le_refl _) (fun _ _ => rfl)
        have hres := HT.out.res
        obtain ⟨p0, p1, q0, q1⟩ := hres.two
        have HT2 := HT
        generalize R.getD 0 row0 = r0 at *
        go_wp2
        rw [Exit.noGoto_ret]
        obtain ⟨k0, k1, _, _⟩ := (hres.set2 (.int .i64 (r0.l.length : Int)) (.slice vA N.length vc)).two
        refine bodyPost_ret (v := .tuple #[.agg #[.int .i64 (r0.l.length : Int), .slice vA N.length vc], .int .i64 b, .int .i64 0]) ?_ rfl ?_
        · simp [results, Try.results20, go_sem, k0, k1]
        · obtain ⟨vA2, vc2, e2, hlies⟩ := HT2.out.lies (w' := (wr.setCell ⟨w.heap.size, 0, none⟩ (.int .i64 (r0.l.length : Int))).setCell ⟨w.heap.size, 1, none⟩ (.slice vA N.length vc)) (by simp [World.setCell]) (fun g hg => (Below.heap_setCell _ _ _ _ hg).trans (Below.heap_setCell _ _ _ _ hg))
          cases e2
          rw [HV.out]
          exact ⟨_, N, _, by rw [← HDIM.out], rfl, hlies, HT2.out.ok, (HT2.out.below.setCell (p := ⟨w.heap.size, 0, none⟩) (Nat.le_refl _) _).setCell (p := ⟨w.heap.size, 1, none⟩) (Nat.le_refl _) _⟩
      · rw [List.concat_eq_append] at HT HZ2 HLS hLN
        have hxx := HLS.out x (by simp)
        have HLS1 : Hid (∀ y ∈ L', y.R.length ≤ 64 ∧ y.d ≤ dp ∧ (y.ro = -1 ∨ ∃ m : Nat, y.ro = (m : Int) ∧ m < N.length)) := fun y hy => HLS.out y (by simp [hy])
        rw [stk_top] at HZ2
        obtain ⟨hx64, hxd, hxr⟩ := hxx
        obtain ⟨vA, vc, rfl⟩ := HT.out.shape
        obtain ⟨gs, cs, rfl, hcc, p0, p1, p2, hT1, hP⟩ := HT.out.pop
        have HT1 := Lib.hid hT1
        have HP := Lib.hid hP
        clear hT1 hP HT HLS
        obtain ⟨xa, xc, xR, xd, xro⟩ := x
        simp only at hx64 hxd hxr p0 p1 p2 HZ2
        have hL2 : L'.length ≤ 128 := by simp at hLN; omega
        have hL3 : (L'.length : Int) ≤ 128 := by omega
        have hL4 : (L'.length : Int) < ((L'.length + 1 : Nat) : Int) := by omega
        have hL5 : (L'.length : Int) ≤ (cs : Int) := by omega
        have hN2 : N.length ≤ 128 := by omega
        have hN3 : (N.length : Int) ≤ 128 := by omega
        have hd3 : (xd : Int) ≤ 6 := by omega
        have hX3 : (xR.length : Int) ≤ 64 := by omega
        have HTa : Hid (TG w ((wr.alloc (.cells #[.slice xa xR.length xc, .int .i64 xd, .int .i64 xro] 67)).alloc (.cells #[.slice none 0 0, .int .i64 0, .int .i64 0, .int .i64 0, .int .i64 xR.length] 39)) (.slice vA N.length vc) N (.slice (some ⟨gs, 0, none⟩) L'.length cs) L') := HT1.out.step (((Below.refl _ _).alloc (Nat.le_refl _) _).alloc (by rw [alloc_size']; omega) _)
        have HBn : Hid (Box ((wr.alloc (.cells #[.slice xa xR.length xc, .int .i64 xd, .int .i64 xro] 67)).alloc (.cells #[.slice none 0 0, .int .i64 0, .int .i64 0, .int .i64 0, .int .i64 xR.length] 39)) (wr.heap.size + 1) #[.slice none 0 0, .int .i64 0, .int .i64 0, .int .i64 0, .int .i64 xR.length] 39) := by
          have := Box.new (wr.alloc (.cells #[.slice xa xR.length xc, .int .i64 xd, .int .i64 xro] 67)) #[.slice none 0 0, .int .i64 0, .int .i64 0, .int .i64 0, .int .i64 xR.length] 39
          rw [alloc_size'] at this
          exact this
        have HBw : Hid (Box ((wr.alloc (.cells #[.slice xa xR.length xc, .int .i64 xd, .int .i64 xro] 67)).alloc (.cells #[.slice none 0 0, .int .i64 0, .int .i64 0, .int .i64 0, .int .i64 xR.length] 39)) wr.heap.size #[.slice xa xR.length xc, .int .i64 xd, .int .i64 xro] 67) := (Box.new wr _ _).alloc _
        have HPa : Hid (∀ W, (∀ g cs, Box wr g cs 35 → Box W g cs 35) → PtsOk w W ⟨xa, xc, xR, xd, xro⟩) := fun W h => HP.out.keep h
        have HKa : Hid (∀ g cs, Box wr g cs 35 → Box ((wr.alloc (.cells #[.slice xa xR.length xc, .int .i64 xd, .int .i64 xro] 67)).alloc (.cells #[.slice none 0 0, .int .i64 0, .int .i64 0, .int .i64 0, .int .i64 xR.length] 39)) g cs 35) := fun g cs h => (h.alloc _).alloc _
        obtain ⟨N1, hN1⟩ : ∃ N1, N1 = setR xro N.length N := ⟨_, rfl⟩
        have HN1L : Hid (N1.length = N.length) := by show _ = _; rw [hN1, setR_len]
        have HZd : Hid (xd = dp → Z = rnN k l t dp f ((N1 ++ [lfN xR.length]).map cnt) (stk L') b) := fun h => by
          rw [hN1, setR_snoc, HZ2.out]; exact rnN_deep _ _ _ _ _ _ _ h
        have HZs : Hid (¬ xd = dp → dE (drw k xR l b t) = 0 → dO (drw k xR l b t) = false → Z = rnN k l t dp f ((N1 ++ [lfN xR.length]).map cnt) (stk L') b) := fun h h2 h3 => by
          rw [hN1, setR_snoc, HZ2.out]; exact rnN_same _ _ _ _ _ _ _ h h2 h3
        have HZe : Hid (¬ xd = dp → ¬ dE (drw k xR l b t) = 0 → Z = ([], 0, dE (drw k xR l b t))) := fun h h2 => by
          rw [HZ2.out]; exact rnN_err _ _ _ _ _ _ _ h h2
        have HZc : Hid (¬ xd = dp → dE (drw k xR l b t) = 0 → dO (drw k xR l b t) = true → ∀ Ac cc, Z = rnN k l t dp f ((N1 ++ [(⟨Ac, cc, (drw k xR l b t).1, (drw k xR l b t).2.1, (N.length : Int) + 1, 0, xR.length⟩ : TN)]).map cnt) ((lfR (drw k xR l b t) xR, xd + 1, -1) :: (rgR (drw k xR l b t) xR, xd + 1, (N.length : Int)) :: stk L') (dA (drw k xR l b t))) := fun h h2 h3 Ac cc => by
          rw [hN1, setR_head, HZ2.out, show ((N.length : Int)) = ((N.map cnt).length : Int) from by rw [List.length_map]]; exact rnN_cut _ _ _ _ _ _ _ h h2 h3
        have HN1 := Lib.hid hN1
        clear hN1
        rcases hxr with rfl | ⟨m, rfl, hm⟩
        · go_upto_region 12 with (at_builtin; refine app_node' (w0 := w) rfl (.tmp 51) (.tmp 56) rfl (.slice vA N.length vc) (.slice (some ⟨gs, 0, none⟩) L'.length cs) N L' xR.length (wr.heap.size + 1) rfl rfl HTa.out HBn.out (by omega) (by omega) ?_; intro g5 c5 w5 HT5 HK5; obtain ⟨q0, q1, q2⟩ := box3 (HK5.out _ _ _ (by decide) HBw.out))
          have HB6 := Lib.hid (HK5.out _ _ _ (by decide) HBw.out)
          have HT6 : Hid (TG w w5 (.slice (some ⟨g5, 0, none⟩) (N.length + 1) c5) (N1 ++ [lfN xR.length]) (.slice (some ⟨gs, 0, none⟩) L'.length cs) L') := by
            show TG _ _ _ _ _ _
            rw [HN1.out, setR_none]
            exact HT5.out
          have HP6 := Lib.hid (HPa.out w5 fun g cs h => HK5.out _ _ _ (by decide) (HKa.out g cs h))
          clear q0 q1 q2 HT5 HK5 p0 p1 p2 HTa HBn HBw HPa HKa
          obtain ⟨q0, q1, q2⟩ := box3 HB6.out
          have hlf := len_snoc N1 (lfN xR.length)
          have HLF := Lib.hid hlf
          clear hlf
          by_cases hd : xd = dp
          · have hdb : ((xd : Int) == (dp : Int)) = true := by simp [hd]
            have HZ3 := Lib.hid (HZd.out hd)
            clear hd
            go_wp2
            refine ⟨⟨N1 ++ [lfN xR.length], L', b, f, rfl, HT6.out, ?_, HB64.out, HZ3.out, fun y hy => ?_, ?_⟩, ?_⟩
            · rw [HLF.out, HN1L.out]; omega
            · obtain ⟨z1, z2, z3⟩ := HLS1.out y hy
              refine ⟨z1, z2, ?_⟩
              rcases z3 with z3 | ⟨m', z3, z4⟩
              · exact .inl z3
              · exact .inr ⟨m', z3, by rw [HLF.out, HN1L.out]; omega⟩
            · have := hLN
              simp at this
              rw [HLF.out, HN1L.out]; omega
            · simp [lenV]; omega
          · have hdb : ((xd : Int) == (dp : Int)) = false := by rw [beq_eq_false_iff_ne]; omega
            have HZs1 := Lib.hid (HZs.out hd)
            have HZe1 := Lib.hid (HZe.out hd)
            have HZc1 := Lib.hid (HZc.out hd)
            have HDR := Lib.hid (@drw_ok k xR l b t)
            have KD1 := KD.out w5 HT6.out.below xa xc xR xd _ b HP6.out hx64 HB64.out
            unfold GivesD at KD1
            clear HZd HZs HZe HZc KD
            obtain ⟨D, hD⟩ : ∃ D, D = drw k xR l b t := ⟨_, rfl⟩
            rw [← hD] at HZs1 HZe1 HZc1 HDR KD1
            clear hD
            obtain ⟨dc, dl, da, dok, de⟩ := D
            simp only at KD1
            have KD2 := Lib.hid KD1
            clear KD1
            generalize hDL : dc.length = DL at *
            have HDL := Lib.hid hDL
            clear hDL
            go_wp2_with fail
            refine KD2.out.mono ?_
            rintro e w7 ⟨Ac, cc, rfl, e1, e2, hL7, hn7, hb7⟩
            have hn8 : New w5 Ac := hn7
            have HL7 := Lib.hid hL7
            have HN7 := Lib.hid hn8
            have HT8 : Hid (TG w (w7.alloc (.cells #[.slice Ac DL cc, .int .i64 dl] 37)) (.slice (some ⟨g5, 0, none⟩) (N.length + 1) c5) (N1 ++ [lfN xR.length]) (.slice (some ⟨gs, 0, none⟩) L'.length cs) L') := (HT6.out.step hb7).step ((Below.refl _ _).alloc (Nat.le_refl _) _)
            have HB8 : Hid (Box (w7.alloc (.cells #[.slice Ac DL cc, .int .i64 dl] 37)) wr.heap.size #[.slice xa xR.length xc, .int .i64 xd, .int .i64 _] 67) := (HB6.out.below hb7 HB6.out.lt).alloc _
            have HC8 : Hid (Box (w7.alloc (.cells #[.slice Ac DL cc, .int .i64 dl] 37)) w7.heap.size #[.slice Ac DL cc, .int .i64 dl] 37) := Box.new w7 _ _
            have HP8 : Hid (PtsOk w (w7.alloc (.cells #[.slice Ac DL cc, .int .i64 dl] 37)) ⟨xa, xc, xR, xd, _⟩) := HP6.out.keep fun g cs h => (h.below hb7 h.lt).alloc _
            have HB7 : Hid (Below w7.heap.size w7 (w7.alloc (.cells #[.slice Ac DL cc, .int .i64 dl] 37))) := (Below.refl _ _).alloc (Nat.le_refl _) _
            have he1 : DL ≤ cc := e1
            have he2 : (cc : Int) ≤ 9223372036854775807 := by omega
            clear q0 q1 q2 hL7 hn7 hn8 hb7 e1 e2 KD2
            by_cases he : de = 0
            · subst he
              cases dok with
              | false =>
                have HZ3 := Lib.hid (HZs1.out rfl rfl)
                go_wp2
                refine ⟨⟨N1 ++ [lfN xR.length], L', b, f, rfl, HT8.out, ?_, HB64.out, HZ3.out, fun y hy => ?_, ?_⟩, ?_⟩
                · rw [HLF.out, HN1L.out]; omega
                · obtain ⟨z1, z2, z3⟩ := HLS1.out y hy
                  refine ⟨z1, z2, ?_⟩
                  rcases z3 with z3 | ⟨m', z3, z4⟩
                  · exact .inl z3
                  · exact .inr ⟨m', z3, by rw [HLF.out, HN1L.out]; omega⟩
                · have := hLN
                  simp at this
                  rw [HLF.out, HN1L.out]; omega
                · simp [lenV]; omega
              | true =>
                obtain ⟨hask, hbox, hor⟩ := HDR.out rfl
                have hparts : Parts9 xR l b (b + mostC k (dimR xR) t) (dc, dl, da, true, 0) := by
                  rcases hor with ⟨_, h⟩ | ⟨_, h⟩
                  · cases h
                  · exact h
                obtain ⟨_, s1, s2, s3, s4, s5, s6, s7⟩ := hparts
                simp only at s1 s2 s3 s4 s5 s6 s7
                have HSL := Lib.hid (lft_at (c := dc) (p := dl) (R := xR) s2)
                have HSR := Lib.hid (rgt_at (c := dc) (p := dl) (R := xR) s2)
                have hb0 : 0 ≤ b := hask.2.1
                have HB64' : Hid (I64 da) := by show -9223372036854775808 ≤ da ∧ da ≤ 9223372036854775807; have := HML.out; omega
                have HOK : Hid (okT [⟨Ac, cc, dc, dl, 0, 0, xR.length⟩]) := by
                  intro n hn
                  rw [List.mem_singleton.1 hn]
                  unfold isC at s1
                  rw [Bool.and_eq_true, decide_eq_true_iff] at s1
                  obtain ⟨_, _, _, g4, _⟩ := partsV_iff.1 s1.1
                  refine ⟨by show dc.length ≤ cc; have := HDL.out; omega, he2, fun z hz => by have := g4 z hz; unfold I64; omega, ?_, ?_, ?_, ?_⟩
                  all_goals (unfold I64; simp only; omega)
                have HZ3 := Lib.hid (HZc1.out rfl rfl Ac cc)
                have hLl : (selR xR (lft dc dl xR)).length ≤ 64 := by rw [selR_len]; exact Nat.le_trans lft_len hx64
                have hLr : (selR xR (rgt dc dl xR)).length ≤ 64 := by rw [selR_len]; exact Nat.le_trans rgt_len hx64
                have KP1 := KP.out _ HT8.out.below xa xc xR xd _ Ac dc cc dl HP8.out hx64 ((HL7.out.below HB7.out).mono HB7.out.size) (by rw [HDL.out]; omega) (by rw [HDL.out]; exact he1) s2
                rw [HDL.out] at KP1
                have KP2 := Lib.hid KP1
                clear KP1 s1 s2 s3 s4 s5 s6 s7 hask hbox hor HZs1 HZe1 HZc1 HDR KP
                obtain ⟨z0, z1, _, _⟩ := HC8.out.two
                obtain ⟨q0, q1, q2⟩ := box3 HB8.out
                go_wp2_with fail
                refine KP2.out.mono ?_
                rintro e w9 ⟨G1, G2, rfl, hg1, hg2, ho1, ho2, hb9⟩
                have HO1 := Lib.hid ho1
                have HO2 := Lib.hid ho2
                have HT9 := Lib.hid (HT8.out.step hb9)
                have HB9 := Lib.hid (HB8.out.below hb9 HB8.out.lt)
                have HC9 := Lib.hid (HC8.out.below hb9 HC8.out.lt)
                have HP9 := Lib.hid (HP8.out.keep fun g cs h => h.below hb9 h.lt)
                have HOF := Lib.hid (offN_of HT6.out HL7.out HN7.out (HB7.out.trans (hb9.mono HB7.out.size)) cc dl 0 0 (xR.length : Int))
                clear z0 z1 q0 q1 q2 ho1 ho2 hb9 hg1 hg2 KP2 HT8 HB8 HC8 HP8 HL7 HN7 HB7 HT6 HB6 HP6
                obtain ⟨q0, q1, q2⟩ := box3 HB9.out
                obtain ⟨z0, z1, _, _⟩ := HC9.out.two
                obtain ⟨r0, r1, _, r2, r3, r4⟩ := HT9.out.row' HN1L.out
                have f0 := r1 (N.length * 5)
                have f1 := r1 (N.length * 5 + 1)
                have f2 := r1 (N.length * 5 + 2)
                have hn5 : (N.length : Int) < ((N.length + 1 : Nat) : Int) := by omega
                clear r1
                go_upto_region 21 with fail
                have hg5 : ∀ g cs T, T ≠ 39 → Box w9 g cs T → g5 ≠ g := fun g cs T hT hx e => own_not_box HT9.out.nodes hx hT (by rw [← e]; rfl)
                have HKP : Hid (∀ g cs T, T ≠ 39 → Box w9 g cs T → Box (((w9.setCell ⟨g5, N.length * 5, none⟩ (.slice Ac DL cc)).setCell ⟨g5, N.length * 5 + 1, none⟩ (.int .i64 dl)).setCell ⟨g5, N.length * 5 + 2, none⟩ (.int .i64 ((N.length : Int) + 1))) g cs T) := fun g cs T hT hx => ((hx.off (p := ⟨g5, N.length * 5, none⟩) (hg5 g cs T hT hx) _).off (p := ⟨g5, N.length * 5 + 1, none⟩) (hg5 g cs T hT hx) _).off (p := ⟨g5, N.length * 5 + 2, none⟩) (hg5 g cs T hT hx) _
                have HT10 : Hid (TG w (((w9.setCell ⟨g5, N.length * 5, none⟩ (.slice Ac DL cc)).setCell ⟨g5, N.length * 5 + 1, none⟩ (.int .i64 dl)).setCell ⟨g5, N.length * 5 + 2, none⟩ (.int .i64 ((N.length : Int) + 1))) (.slice (some ⟨g5, 0, none⟩) (N.length + 1) c5) (N1 ++ [⟨Ac, cc, dc, dl, (N.length : Int) + 1, 0, xR.length⟩]) (.slice (some ⟨gs, 0, none⟩) L'.length cs) L') := by
                  have := HT9.out.cut' HN1L.out (by omega) Ac cc dc dl HOF.out HOK.out
                  rw [HDL.out] at this
                  exact this
                have HB10 := Lib.hid (HKP.out _ _ _ (by decide) HB9.out)
                have HO1' := Lib.hid (HKP.out _ _ _ (by decide) HO1.out)
                have HO2' := Lib.hid (HKP.out _ _ _ (by decide) HO2.out)
                clear hg5 HKP q0 q1 q2 z0 z1 r0 r2 r3 r4 f0 f1 f2 HT9 HB9 HC9
                generalize ((w9.setCell ⟨g5, N.length * 5, none⟩ (.slice Ac DL cc)).setCell ⟨g5, N.length * 5 + 1, none⟩ (.int .i64 dl)).setCell ⟨g5, N.length * 5 + 2, none⟩ (.int .i64 ((N.length : Int) + 1)) = w10 at *
                obtain ⟨q0, q1, q2⟩ := box3 HB10.out
                have HPp : Hid (PtsOk w (w10.alloc (.cells #[.slice (some ⟨G2, 0, none⟩) (selR xR (rgt dc dl xR)).length (selR xR (rgt dc dl xR)).length, .int .i64 ((xd : Int) + 1), .int .i64 (N.length : Int), .slice (some ⟨G1, 0, none⟩) (selR xR (lft dc dl xR)).length (selR xR (lft dc dl xR)).length, .int .i64 ((xd : Int) + 1), .int .i64 (-1)] 67)) ⟨some ⟨G2, 0, none⟩, (selR xR (rgt dc dl xR)).length, selR xR (rgt dc dl xR), xd + 1, (N.length : Int)⟩) := HP9.out.sel HSR.out (Box.alloc HO2'.out _) (xd + 1) (N.length : Int)
                have HPq : Hid (PtsOk w (w10.alloc (.cells #[.slice (some ⟨G2, 0, none⟩) (selR xR (rgt dc dl xR)).length (selR xR (rgt dc dl xR)).length, .int .i64 ((xd : Int) + 1), .int .i64 (N.length : Int), .slice (some ⟨G1, 0, none⟩) (selR xR (lft dc dl xR)).length (selR xR (lft dc dl xR)).length, .int .i64 ((xd : Int) + 1), .int .i64 (-1)] 67)) ⟨some ⟨G1, 0, none⟩, (selR xR (lft dc dl xR)).length, selR xR (lft dc dl xR), xd + 1, -1⟩) := HP9.out.sel HSL.out (Box.alloc HO1'.out _) (xd + 1) (-1)
                have HT11 : Hid (TG w (w10.alloc (.cells #[.slice (some ⟨G2, 0, none⟩) (selR xR (rgt dc dl xR)).length (selR xR (rgt dc dl xR)).length, .int .i64 ((xd : Int) + 1), .int .i64 (N.length : Int), .slice (some ⟨G1, 0, none⟩) (selR xR (lft dc dl xR)).length (selR xR (lft dc dl xR)).length, .int .i64 ((xd : Int) + 1), .int .i64 (-1)] 67)) (.slice (some ⟨g5, 0, none⟩) (N.length + 1) c5) (N1 ++ [⟨Ac, cc, dc, dl, (N.length : Int) + 1, 0, xR.length⟩]) (.slice (some ⟨gs, 0, none⟩) L'.length cs) L') := HT10.out.step ((Below.refl _ _).alloc (Nat.le_refl _) _)
                have HZ4 : Hid (Z = rnN k l t dp f ((N1 ++ [(⟨Ac, cc, dc, dl, (N.length : Int) + 1, 0, xR.length⟩ : TN)]).map cnt) (stk (L' ++ [⟨some ⟨G2, 0, none⟩, (selR xR (rgt dc dl xR)).length, selR xR (rgt dc dl xR), xd + 1, (N.length : Int)⟩, ⟨some ⟨G1, 0, none⟩, (selR xR (lft dc dl xR)).length, selR xR (lft dc dl xR), xd + 1, -1⟩])) da) := by
                  show _ = _
                  rw [HZ3.out]
                  have : stk (L' ++ [⟨some ⟨G2, 0, none⟩, (selR xR (rgt dc dl xR)).length, selR xR (rgt dc dl xR), xd + 1, (N.length : Int)⟩, ⟨some ⟨G1, 0, none⟩, (selR xR (lft dc dl xR)).length, selR xR (lft dc dl xR), xd + 1, -1⟩]) = (selR xR (lft dc dl xR), xd + 1, -1) :: (selR xR (rgt dc dl xR), xd + 1, (N.length : Int)) :: stk L' := by unfold stk wtT; simp
                  rw [this]
                  rfl
                clear HSL HSR HOF HOK HZ3 HP9 HO1 HO2 HO1' HO2' HT10
                generalize selR xR (lft dc dl xR) = RL at *
                generalize selR xR (rgt dc dl xR) = RR at *
                go_wp2_with (at_builtin; refine app_waits (w0 := w) rfl (.tmp 115) (.tmp 127) rfl (.slice (some ⟨g5, 0, none⟩) (N.length + 1) c5) (.slice (some ⟨gs, 0, none⟩) L'.length cs) _ L' _ _ w10.heap.size _ rfl rfl HT11.out (Box.new w10 _ _) (by simp [wtC]) (by omega) HPp.out HPq.out ?_; intro v12 w12 hT12; have HT12 := Lib.hid hT12; clear hT12)
                refine ⟨⟨_, _, da, f, rfl, HT12.out, ?_, HB64'.out, HZ4.out, fun y hy => ?_, ?_⟩, ?_⟩
                · rw [len_snoc, HN1L.out]; omega
                · rcases List.mem_append.1 hy with hy | hy
                  · obtain ⟨z1, z2, z3⟩ := HLS1.out y hy
                    refine ⟨z1, z2, ?_⟩
                    rcases z3 with z3 | ⟨m', z3, z4⟩
                    · exact .inl z3
                    · exact .inr ⟨m', z3, by rw [len_snoc, HN1L.out]; omega⟩
                  · simp only [List.mem_cons, List.not_mem_nil, or_false] at hy
                    rcases hy with rfl | rfl
                    · exact ⟨hLr, by show xd + 1 ≤ dp; omega, .inr ⟨N.length, rfl, by rw [len_snoc, HN1L.out]; omega⟩⟩
                    · exact ⟨hLl, by show xd + 1 ≤ dp; omega, .inl rfl⟩
                · have := hLN
                  simp at this
                  rw [len_snoc, HN1L.out]
                  simp
                  omega
                · simp [lenV]; omega
            · have hne : (de != 0) = true := by simp [he]
              have HZ3 := Lib.hid (HZe1.out he)
              have HV : Hid (groG k R l a t = (0, [], 0, de)) := by
                show _ = _
                rw [HG3.out, if_neg (by rw [HZ3.out]; exact he), HZ3.out]
                rfl
              have hres := HT8.out.res
              obtain ⟨y0', y1', _, _⟩ := hres.two
              go_wp2
              rw [Exit.noGoto_ret]
              obtain ⟨k0, k1, _, _⟩ := (hres.set2 (.int .i64 0) (.slice none 0 0)).two
              refine bodyPost_ret (v := .tuple #[.agg #[.int .i64 0, .slice none 0 0], .int .i64 0, .int .i64 de]) ?_ rfl ?_
              · simp [results, Try.results20, go_sem, k0, k1, y0', y1']
              · rw [HV.out]
                exact givesG_no (by first | exact HT8.out.below | exact (HT8.out.below.setCell (p := ⟨w.heap.size, 0, none⟩) (Nat.le_refl _) _).setCell (p := ⟨w.heap.size, 1, none⟩) (Nat.le_refl _) _)
        · have hm2 : (m : Int) < ((N.length + 1 : Nat) : Int) := by omega
          have hm3 : ((m : Int) != -1) = true := by simp
          have hm4 : (m : Int) < (N.length : Int) := by omega
          go_upto_region 12 with (at_builtin; refine app_node' (w0 := w) rfl (.tmp 51) (.tmp 56) rfl (.slice vA N.length vc) (.slice (some ⟨gs, 0, none⟩) L'.length cs) N L' xR.length (wr.heap.size + 1) rfl rfl HTa.out HBn.out (by omega) (by omega) ?_; intro g5 c5 w5 HT5 HK5; obtain ⟨q0, q1, q2⟩ := box3 (HK5.out _ _ _ (by decide) HBw.out); obtain ⟨r0, r1, r2, _, _, _⟩ := HT5.out.row' rfl; obtain ⟨u5, r3⟩ := r2 m hm; have r4 := r1 (m * 5 + 3))
          have hg5 : g5 ≠ wr.heap.size := fun e => own_not_box HT5.out.nodes (HK5.out _ _ _ (by decide) HBw.out) (by decide) (by rw [← e]; rfl)
          have HB6 := Lib.hid ((HK5.out _ _ _ (by decide) HBw.out).off (p := ⟨g5, m * 5 + 3, none⟩) hg5 (.int .i64 (N.length : Int)))
          have HT6 : Hid (TG w (w5.setCell ⟨g5, m * 5 + 3, none⟩ (.int .i64 (N.length : Int))) (.slice (some ⟨g5, 0, none⟩) (N.length + 1) c5) (N1 ++ [lfN xR.length]) (.slice (some ⟨gs, 0, none⟩) L'.length cs) L') := by
            show TG _ _ _ _ _ _
            rw [HN1.out, setR_nat]
            exact HT5.out.right' hm (by omega)
          have HP6 := Lib.hid (HPa.out (w5.setCell ⟨g5, m * 5 + 3, none⟩ (.int .i64 (N.length : Int))) fun g cs h => (HK5.out _ _ _ (by decide) (HKa.out g cs h)).off (fun e => own_not_box HT5.out.nodes (HK5.out _ _ _ (by decide) (HKa.out g cs h)) (by decide) (by rw [← e]; rfl)) _)
          clear q0 q1 q2 HT5 HK5 r0 r1 r2 r3 r4 u5 hg5 p0 p1 p2 HTa HBn HBw HPa HKa
          generalize w5.setCell ⟨g5, m * 5 + 3, none⟩ (.int .i64 (N.length : Int)) = w5 at *
          obtain ⟨q0, q1, q2⟩ := box3 HB6.out
          have hlf := len_snoc N1 (lfN xR.length)
          have HLF := Lib.hid hlf
          clear hlf
          by_cases hd : xd = dp
          · have hdb : ((xd : Int) == (dp : Int)) = true := by simp [hd]
            have HZ3 := Lib.hid (HZd.out hd)
            clear hd
            go_wp2
            refine ⟨⟨N1 ++ [lfN xR.length], L', b, f, rfl, HT6.out, ?_, HB64.out, HZ3.out, fun y hy => ?_, ?_⟩, ?_⟩
            · rw [HLF.out, HN1L.out]; omega
            · obtain ⟨z1, z2, z3⟩ := HLS1.out y hy
              refine ⟨z1, z2, ?_⟩
              rcases z3 with z3 | ⟨m', z3, z4⟩
              · exact .inl z3
              · exact .inr ⟨m', z3, by rw [HLF.out, HN1L.out]; omega⟩
            · have := hLN
              simp at this
              rw [HLF.out, HN1L.out]; omega
            · simp [lenV]; omega
          · have hdb : ((xd : Int) == (dp : Int)) = false := by rw [beq_eq_false_iff_ne]; omega
            have HZs1 := Lib.hid (HZs.out hd)
            have HZe1 := Lib.hid (HZe.out hd)
            have HZc1 := Lib.hid (HZc.out hd)
            have HDR := Lib.hid (@drw_ok k xR l b t)
            have KD1 := KD.out w5 HT6.out.below xa xc xR xd _ b HP6.out hx64 HB64.out
            unfold GivesD at KD1
            clear HZd HZs HZe HZc KD
            obtain ⟨D, hD⟩ : ∃ D, D = drw k xR l b t := ⟨_, rfl⟩
            rw [← hD] at HZs1 HZe1 HZc1 HDR KD1
            clear hD
            obtain ⟨dc, dl, da, dok, de⟩ := D
            simp only at KD1
            have KD2 := Lib.hid KD1
            clear KD1
            generalize hDL : dc.length = DL at *
            have HDL := Lib.hid hDL
            clear hDL
            go_wp2_with fail
            refine KD2.out.mono ?_
            rintro e w7 ⟨Ac, cc, rfl, e1, e2, hL7, hn7, hb7⟩
            have hn8 : New w5 Ac := hn7
            have HL7 := Lib.hid hL7
            have HN7 := Lib.hid hn8
            have HT8 : Hid (TG w (w7.alloc (.cells #[.slice Ac DL cc, .int .i64 dl] 37)) (.slice (some ⟨g5, 0, none⟩) (N.length + 1) c5) (N1 ++ [lfN xR.length]) (.slice (some ⟨gs, 0, none⟩) L'.length cs) L') := (HT6.out.step hb7).step ((Below.refl _ _).alloc (Nat.le_refl _) _)
            have HB8 : Hid (Box (w7.alloc (.cells #[.slice Ac DL cc, .int .i64 dl] 37)) wr.heap.size #[.slice xa xR.length xc, .int .i64 xd, .int .i64 _] 67) := (HB6.out.below hb7 HB6.out.lt).alloc _
            have HC8 : Hid (Box (w7.alloc (.cells #[.slice Ac DL cc, .int .i64 dl] 37)) w7.heap.size #[.slice Ac DL cc, .int .i64 dl] 37) := Box.new w7 _ _
            have HP8 : Hid (PtsOk w (w7.alloc (.cells #[.slice Ac DL cc, .int .i64 dl] 37)) ⟨xa, xc, xR, xd, _⟩) := HP6.out.keep fun g cs h => (h.below hb7 h.lt).alloc _
            have HB7 : Hid (Below w7.heap.size w7 (w7.alloc (.cells #[.slice Ac DL cc, .int .i64 dl] 37))) := (Below.refl _ _).alloc (Nat.le_refl _) _
            have he1 : DL ≤ cc := e1
            have he2 : (cc : Int) ≤ 9223372036854775807 := by omega
            clear q0 q1 q2 hL7 hn7 hn8 hb7 e1 e2 KD2
            by_cases he : de = 0
            · subst he
              cases dok with
              | false =>
                have HZ3 := Lib.hid (HZs1.out rfl rfl)
                go_wp2
                refine ⟨⟨N1 ++ [lfN xR.length], L', b, f, rfl, HT8.out, ?_, HB64.out, HZ3.out, fun y hy => ?_, ?_⟩, ?_⟩
                · rw [HLF.out, HN1L.out]; omega
                · obtain ⟨z1, z2, z3⟩ := HLS1.out y hy
                  refine ⟨z1, z2, ?_⟩
                  rcases z3 with z3 | ⟨m', z3, z4⟩
                  · exact .inl z3
                  · exact .inr ⟨m', z3, by rw [HLF.out, HN1L.out]; omega⟩
                · have := hLN
                  simp at this
                  rw [HLF.out, HN1L.out]; omega
                · simp [lenV]; omega
              | true =>
                obtain ⟨hask, hbox, hor⟩ := HDR.out rfl
                have hparts : Parts9 xR l b (b + mostC k (dimR xR) t) (dc, dl, da, true, 0) := by
                  rcases hor with ⟨_, h⟩ | ⟨_, h⟩
                  · cases h
                  · exact h
                obtain ⟨_, s1, s2, s3, s4, s5, s6, s7⟩ := hparts
                simp only at s1 s2 s3 s4 s5 s6 s7
                have HSL := Lib.hid (lft_at (c := dc) (p := dl) (R := xR) s2)
                have HSR := Lib.hid (rgt_at (c := dc) (p := dl) (R := xR) s2)
                have hb0 : 0 ≤ b := hask.2.1
                have HB64' : Hid (I64 da) := by show -9223372036854775808 ≤ da ∧ da ≤ 9223372036854775807; have := HML.out; omega
                have HOK : Hid (okT [⟨Ac, cc, dc, dl, 0, 0, xR.length⟩]) := by
                  intro n hn
                  rw [List.mem_singleton.1 hn]
                  unfold isC at s1
                  rw [Bool.and_eq_true, decide_eq_true_iff] at s1
                  obtain ⟨_, _, _, g4, _⟩ := partsV_iff.1 s1.1
                  refine ⟨by show dc.length ≤ cc; have := HDL.out; omega, he2, fun z hz => by have := g4 z hz; unfold I64; omega, ?_, ?_, ?_, ?_⟩
                  all_goals (unfold I64; simp only; omega)
                have HZ3 := Lib.hid (HZc1.out rfl rfl Ac cc)
                have hLl : (selR xR (lft dc dl xR)).length ≤ 64 := by rw [selR_len]; exact Nat.le_trans lft_len hx64
                have hLr : (selR xR (rgt dc dl xR)).length ≤ 64 := by rw [selR_len]; exact Nat.le_trans rgt_len hx64
                have KP1 := KP.out _ HT8.out.below xa xc xR xd _ Ac dc cc dl HP8.out hx64 ((HL7.out.below HB7.out).mono HB7.out.size) (by rw [HDL.out]; omega) (by rw [HDL.out]; exact he1) s2
                rw [HDL.out] at KP1
                have KP2 := Lib.hid KP1
                clear KP1 s1 s2 s3 s4 s5 s6 s7 hask hbox hor HZs1 HZe1 HZc1 HDR KP
                obtain ⟨z0, z1, _, _⟩ := HC8.out.two
                obtain ⟨q0, q1, q2⟩ := box3 HB8.out
                go_wp2_with fail
                refine KP2.out.mono ?_
                rintro e w9 ⟨G1, G2, rfl, hg1, hg2, ho1, ho2, hb9⟩
                have HO1 := Lib.hid ho1
                have HO2 := Lib.hid ho2
                have HT9 := Lib.hid (HT8.out.step hb9)
                have HB9 := Lib.hid (HB8.out.below hb9 HB8.out.lt)
                have HC9 := Lib.hid (HC8.out.below hb9 HC8.out.lt)
                have HP9 := Lib.hid (HP8.out.keep fun g cs h => h.below hb9 h.lt)
                have HOF := Lib.hid (offN_of HT6.out HL7.out HN7.out (HB7.out.trans (hb9.mono HB7.out.size)) cc dl 0 0 (xR.length : Int))
                clear z0 z1 q0 q1 q2 ho1 ho2 hb9 hg1 hg2 KP2 HT8 HB8 HC8 HP8 HL7 HN7 HB7 HT6 HB6 HP6
                obtain ⟨q0, q1, q2⟩ := box3 HB9.out
                obtain ⟨z0, z1, _, _⟩ := HC9.out.two
                obtain ⟨r0, r1, _, r2, r3, r4⟩ := HT9.out.row' HN1L.out
                have f0 := r1 (N.length * 5)
                have f1 := r1 (N.length * 5 + 1)
                have f2 := r1 (N.length * 5 + 2)
                have hn5 : (N.length : Int) < ((N.length + 1 : Nat) : Int) := by omega
                clear r1
                go_upto_region 21 with fail
                have hg5 : ∀ g cs T, T ≠ 39 → Box w9 g cs T → g5 ≠ g := fun g cs T hT hx e => own_not_box HT9.out.nodes hx hT (by rw [← e]; rfl)
                have HKP : Hid (∀ g cs T, T ≠ 39 → Box w9 g cs T → Box (((w9.setCell ⟨g5, N.length * 5, none⟩ (.slice Ac DL cc)).setCell ⟨g5, N.length * 5 + 1, none⟩ (.int .i64 dl)).setCell ⟨g5, N.length * 5 + 2, none⟩ (.int .i64 ((N.length : Int) + 1))) g cs T) := fun g cs T hT hx => ((hx.off (p := ⟨g5, N.length * 5, none⟩) (hg5 g cs T hT hx) _).off (p := ⟨g5, N.length * 5 + 1, none⟩) (hg5 g cs T hT hx) _).off (p := ⟨g5, N.length * 5 + 2, none⟩) (hg5 g cs T hT hx) _
                have HT10 : Hid (TG w (((w9.setCell ⟨g5, N.length * 5, none⟩ (.slice Ac DL cc)).setCell ⟨g5, N.length * 5 + 1, none⟩ (.int .i64 dl)).setCell ⟨g5, N.length * 5 + 2, none⟩ (.int .i64 ((N.length : Int) + 1))) (.slice (some ⟨g5, 0, none⟩) (N.length + 1) c5) (N1 ++ [⟨Ac, cc, dc, dl, (N.length : Int) + 1, 0, xR.length⟩]) (.slice (some ⟨gs, 0, none⟩) L'.length cs) L') := by
                  have := HT9.out.cut' HN1L.out (by omega) Ac cc dc dl HOF.out HOK.out
                  rw [HDL.out] at this
                  exact this
                have HB10 := Lib.hid (HKP.out _ _ _ (by decide) HB9.out)
                have HO1' := Lib.hid (HKP.out _ _ _ (by decide) HO1.out)
                have HO2' := Lib.hid (HKP.out _ _ _ (by decide) HO2.out)
                clear hg5 HKP q0 q1 q2 z0 z1 r0 r2 r3 r4 f0 f1 f2 HT9 HB9 HC9
                generalize ((w9.setCell ⟨g5, N.length * 5, none⟩ (.slice Ac DL cc)).setCell ⟨g5, N.length * 5 + 1, none⟩ (.int .i64 dl)).setCell ⟨g5, N.length * 5 + 2, none⟩ (.int .i64 ((N.length : Int) + 1)) = w10 at *
                obtain ⟨q0, q1, q2⟩ := box3 HB10.out
                have HPp : Hid (PtsOk w (w10.alloc (.cells #[.slice (some ⟨G2, 0, none⟩) (selR xR (rgt dc dl xR)).length (selR xR (rgt dc dl xR)).length, .int .i64 ((xd : Int) + 1), .int .i64 (N.length : Int), .slice (some ⟨G1, 0, none⟩) (selR xR (lft dc dl xR)).length (selR xR (lft dc dl xR)).length, .int .i64 ((xd : Int) + 1), .int .i64 (-1)] 67)) ⟨some ⟨G2, 0, none⟩, (selR xR (rgt dc dl xR)).length, selR xR (rgt dc dl xR), xd + 1, (N.length : Int)⟩) := HP9.out.sel HSR.out (Box.alloc HO2'.out _) (xd + 1) (N.length : Int)
                have HPq : Hid (PtsOk w (w10.alloc (.cells #[.slice (some ⟨G2, 0, none⟩) (selR xR (rgt dc dl xR)).length (selR xR (rgt dc dl xR)).length, .int .i64 ((xd : Int) + 1), .int .i64 (N.length : Int), .slice (some ⟨G1, 0, none⟩) (selR xR (lft dc dl xR)).length (selR xR (lft dc dl xR)).length, .int .i64 ((xd : Int) + 1), .int .i64 (-1)] 67)) ⟨some ⟨G1, 0, none⟩, (selR xR (lft dc dl xR)).length, selR xR (lft dc dl xR), xd + 1, -1⟩) := HP9.out.sel HSL.out (Box.alloc HO1'.out _) (xd + 1) (-1)
                have HT11 : Hid (TG w (w10.alloc (.cells #[.slice (some ⟨G2, 0, none⟩) (selR xR (rgt dc dl xR)).length (selR xR (rgt dc dl xR)).length, .int .i64 ((xd : Int) + 1), .int .i64 (N.length : Int), .slice (some ⟨G1, 0, none⟩) (selR xR (lft dc dl xR)).length (selR xR (lft dc dl xR)).length, .int .i64 ((xd : Int) + 1), .int .i64 (-1)] 67)) (.slice (some ⟨g5, 0, none⟩) (N.length + 1) c5) (N1 ++ [⟨Ac, cc, dc, dl, (N.length : Int) + 1, 0, xR.length⟩]) (.slice (some ⟨gs, 0, none⟩) L'.length cs) L') := HT10.out.step ((Below.refl _ _).alloc (Nat.le_refl _) _)
                have HZ4 : Hid (Z = rnN k l t dp f ((N1 ++ [(⟨Ac, cc, dc, dl, (N.length : Int) + 1, 0, xR.length⟩ : TN)]).map cnt) (stk (L' ++ [⟨some ⟨G2, 0, none⟩, (selR xR (rgt dc dl xR)).length, selR xR (rgt dc dl xR), xd + 1, (N.length : Int)⟩, ⟨some ⟨G1, 0, none⟩, (selR xR (lft dc dl xR)).length, selR xR (lft dc dl xR), xd + 1, -1⟩])) da) := by
                  show _ = _
                  rw [HZ3.out]
                  have : stk (L' ++ [⟨some ⟨G2, 0, none⟩, (selR xR (rgt dc dl xR)).length, selR xR (rgt dc dl xR), xd + 1, (N.length : Int)⟩, ⟨some ⟨G1, 0, none⟩, (selR xR (lft dc dl xR)).length, selR xR (lft dc dl xR), xd + 1, -1⟩]) = (selR xR (lft dc dl xR), xd + 1, -1) :: (selR xR (rgt dc dl xR), xd + 1, (N.length : Int)) :: stk L' := by unfold stk wtT; simp
                  rw [this]
                  rfl
                clear HSL HSR HOF HOK HZ3 HP9 HO1 HO2 HO1' HO2' HT10
                generalize selR xR (lft dc dl xR) = RL at *
                generalize selR xR (rgt dc dl xR) = RR at *
                go_wp2_with (at_builtin; refine app_waits (w0 := w) rfl (.tmp 115) (.tmp 127) rfl (.slice (some ⟨g5, 0, none⟩) (N.length + 1) c5) (.slice (some ⟨gs, 0, none⟩) L'.length cs) _ L' _ _ w10.heap.size _ rfl rfl HT11.out (Box.new w10 _ _) (by simp [wtC]) (by omega) HPp.out HPq.out ?_; intro v12 w12 hT12; have HT12 := Lib.hid hT12; clear hT12)
                refine ⟨⟨_, _, da, f, rfl, HT12.out, ?_, HB64'.out, HZ4.out, fun y hy => ?_, ?_⟩, ?_⟩
                · rw [len_snoc, HN1L.out]; omega
                · rcases List.mem_append.1 hy with hy | hy
                  · obtain ⟨z1, z2, z3⟩ := HLS1.out y hy
                    refine ⟨z1, z2, ?_⟩
                    rcases z3 with z3 | ⟨m', z3, z4⟩
                    · exact .inl z3
                    · exact .inr ⟨m', z3, by rw [len_snoc, HN1L.out]; omega⟩
                  · simp only [List.mem_cons, List.not_mem_nil, or_false] at hy
                    rcases hy with rfl | rfl
                    · exact ⟨hLr, by show xd + 1 ≤ dp; omega, .inr ⟨N.length, rfl, by rw [len_snoc, HN1L.out]; omega⟩⟩
                    · exact ⟨hLl, by show xd + 1 ≤ dp; omega, .inl rfl⟩
                · have := hLN
                  simp at this
                  rw [len_snoc, HN1L.out]
                  simp
                  omega
                · simp [lenV]; omega
            · have hne : (de != 0) = true := by simp [he]
              have HZ3 := Lib.hid (HZe1.out he)
              have HV : Hid (groG k R l a t = (0, [], 0, de)) := by
                show _ = _
                rw [HG3.out, if_neg (by rw [HZ3.out]; exact he), HZ3.out]
                rfl
              have hres := HT8.out.res
              obtain ⟨y0', y1', _, _⟩ := hres.two
              go_wp2
              rw [Exit.noGoto_ret]
              obtain ⟨k0, k1, _, _⟩ := (hres.set2 (.int .i64 0) (.slice none 0 0)).two
              refine bodyPost_ret (v := .tuple #[.agg #[.int .i64 0, .slice none 0 0], .int .i64 0, .int .i64 de]) ?_ rfl ?_
              · simp [results, Try.results20, go_sem, k0, k1, y0', y1']
              · rw [HV.out]
                exact givesG_no (by first | exact HT8.out.below | exact (HT8.out.below.setCell (p := ⟨w.heap.size, 0, none⟩) (Nat.le_refl _) _).setCell (p := ⟨w.heap.size, 1, none⟩) (Nat.le_refl _) _)
end Go.Proofs.Ytkkeejbgaaodeaa
