/- Layer 18 (bag): a bag in memory; Add. -/
import Derived.Test.YtaeodkpkgbjaeaaBbB
import Derived.Test.YtaeodkpkgbjaeaaBagN
namespace Go.Proofs.Ytaeodkpkgbjaeaa
open Go.RowKit
set_option linter.unusedVariables false
set_option linter.unusedSimpArgs false

instance (x : PQ) : Decidable (okP x) := by unfold okP; infer_instance
/-- a bag of the scores l, in the memory of O -/
def BagAt (w : World) (O : List Nat) (g : Nat) (l : List PQ) : Prop :=
  ∃ (gB c : Nat) (bs : List Blk), O = g :: memB gB bs ∧ Box w g #[.slice (some ⟨gB, 0, none⟩) bs.length c, .int .i64 (l.length : Nat)] 126 ∧ BksAt w gB c bs ∧ g ∉ memB gB bs ∧ OkL bs ∧ flat bs = l ∧ UpS l ∧ l.length ≤ 4096
theorem BagAt.lt {w : World} {O : List Nat} {g : Nat} {l : List PQ} (h : BagAt w O g l) : ∀ x ∈ O, x < w.heap.size := by
  obtain ⟨gB, c, bs, rfl, hb, hB, _⟩ := h
  intro x hx
  rcases List.mem_cons.1 hx with rfl | hx
  · exact hb.lt
  · exact hB.ltM x hx
theorem BagAt.keep {w w' : World} {O : List Nat} {g : Nat} {l : List PQ} (h : BagAt w O g l) (hk : ∀ x ∈ O, w'.heap[x]? = w.heap[x]?) : BagAt w' O g l := by
  obtain ⟨gB, c, bs, rfl, hb, hB, h1⟩ := h
  exact ⟨gB, c, bs, rfl, (hk g List.mem_cons_self).trans hb, hB.keep fun x hx => hk x (List.mem_cons_of_mem _ hx), h1⟩
theorem BagAt.below {w w' : World} {O : List Nat} {g : Nat} {l : List PQ} (h : BagAt w O g l) (hb : Below w.heap.size w w') : BagAt w' O g l :=
  h.keep fun x hx => hb.block x (h.lt x hx)
/-- what Add and Drop give: the bag holds l2 then -/
def BgR (w : World) (O : List Nat) (g : Nat) (x : Int) (l2 : List PQ) (e : Ending) (w' : World) : Prop :=
  e = .returned (.int .i64 x) ∧ ∃ O', BagAt w' O' g l2 ∧ WrS O w w' ∧ ∀ x ∈ O', x ∈ O ∨ w.heap.size ≤ x
theorem BgR.same {w w' : World} {O : List Nat} {g : Nat} {x : Int} {l : List PQ} (h : BagAt w O g l) (hb : Below w.heap.size w w') : BgR w O g x l (.returned (.int .i64 x)) w' :=
  ⟨rfl, O, h.below hb, WrS.of _ hb, fun x hx => Or.inl hx⟩
/-- Add and Drop of what is no score -/
theorem bcE_ok {p q : Int} (h : okP (p, q)) : bcE p q = 0 := by unfold bcE scoB; rw [if_pos (by exact decide_eq_true h)]
theorem bcE_no {p q : Int} (h : ¬ okP (p, q)) : bcE p q = 130 := by unfold bcE scoB; rw [if_neg]; rw [decide_eq_true_iff]; exact h
/-- put at a block by its number, beside a bag in block g -/
theorem put_bag (gB c : Nat) (bs : List Blk) (d r g : Nat) (p q : Int) (v0 v1 : Value) (T : TypeId) (W : World) (hbk : BksAt W gB c bs) (hgn : g ∉ memB gB bs) (hOk : OkL bs) (hd : d < bs.length) (hr : r ≤ lnA bs d) (hlen : bs.length ≤ 90000) (hok : okP (p, q)) (hb : Box W g #[v0, v1] T) :
    Calls Try.prog 89 #[.slice (some ⟨gB, 0, none⟩) bs.length c, .int .i64 d, .int .i64 r, .agg #[.int .i64 p, .int .i64 q]] W fun e w' => ∃ (g' c' : Nat) (bs' : List Blk), e = .returned (.slice (some ⟨g', 0, none⟩) bs'.length c') ∧ BksAt w' g' c' bs' ∧ WrS (memB gB bs) W w' ∧
      (∀ x ∈ memB g' bs', x ∈ memB gB bs ∨ W.heap.size ≤ x) ∧ Box w' g #[v0, v1] T ∧ flat bs' = insS (flat bs) (sumA bs d + r) (p, q) ∧ OkL bs' := by
  obtain ⟨A, b, C, rfl, hA⟩ := cut_at bs d hd
  rw [← hA, lnA_mid] at hr
  refine (bag_put A C b gB c d r p q W hbk hA (hOk.room b (by simp)) hr hlen).mono ?_
  rintro e w' ⟨bs', ⟨g', c', rfl, h1, h2, h3⟩, h4, h5⟩
  refine ⟨g', c', bs', rfl, h1, h2, h3, h2.box hb hgn, ?_, h5 hOk hok⟩
  rw [h4, ← hA, sumA_app]
theorem cut_bag (gB c : Nat) (bs : List Blk) (d r g : Nat) (v0 v1 : Value) (T : TypeId) (W : World) (hbk : BksAt W gB c bs) (hgn : g ∉ memB gB bs) (hOk : OkL bs) (hd : d < bs.length) (hr : r < lnA bs d) (hlen : bs.length ≤ 90000) (hb : Box W g #[v0, v1] T) :
    Calls Try.prog 91 #[.slice (some ⟨gB, 0, none⟩) bs.length c, .int .i64 d, .int .i64 r] W fun e w' => ∃ (g' c' : Nat) (bs' : List Blk), e = .returned (.slice (some ⟨g', 0, none⟩) bs'.length c') ∧ BksAt w' g' c' bs' ∧ WrS (memB gB bs) W w' ∧
      (∀ x ∈ memB g' bs', x ∈ memB gB bs ∨ W.heap.size ≤ x) ∧ Box w' g #[v0, v1] T ∧ flat bs' = (flat bs).eraseIdx (sumA bs d + r) ∧ OkL bs' := by
  obtain ⟨A, b, C, rfl, hA⟩ := cut_at bs d hd
  rw [← hA, lnA_mid] at hr
  refine (bag_cut A C b gB c d r W hbk hOk hA hr hlen).mono ?_
  rintro e w' ⟨bs', ⟨g', c', rfl, h1, h2, h3⟩, h4, h5⟩
  refine ⟨g', c', bs', rfl, h1, h2, h3, h2.box hb hgn, ?_, h5⟩
  rw [h4, ← hA, sumA_app]
set_option maxRecDepth 100000 in
set_option maxHeartbeats 4000000 in
theorem bag_add_no (O : List Nat) (g : Nat) (l : List PQ) (p q : Int) (hp : I64 p) (hq : I64 q) (w : World) (h : BagAt w O g l) (hno : ¬ okP (p, q) ∨ l.length = 4096) :
    Calls Try.prog 25 #[.pointer (some ⟨g, 0, none⟩), .agg #[.int .i64 p, .int .i64 q]] w (BgR w O g (if okP (p, q) then 3 else 130) l) := by
  have HR : Hid (∀ x w', Below w.heap.size w w' → BgR w O g x l (.returned (.int .i64 x)) w') := fun x w' hb => BgR.same h hb
  obtain ⟨gB, c, bs, -, hb, -⟩ := h
  have J0 := Lib.hid ((Keeps.start w).alloc #[.int .i64 p, .int .i64 q] 24)
  obtain ⟨s0, s1, _, _⟩ := J0.out.head.two
  have K1 := Lib.hid (fun W => bag_check (some ⟨g, 0, none⟩) p q hp hq W)
  rw [if_neg (by simp)] at K1
  have HB := Lib.hid hb
  by_cases hok : okP (p, q)
  · rw [if_pos hok]
    have hl := hno.resolve_left (fun h => h hok)
    rw [bcE_ok hok] at K1
    rw [hl] at HB
    clear hno hl hb
    go_enter Try.func25, Try.ntmps25
    go_wp2_with fail
    refine (K1.out _).mono ?_
    rintro e w1 ⟨rfl, b1⟩
    have J1 := Lib.hid (J0.out.below b1)
    clear b1
    obtain ⟨x0, x1, _, _⟩ := (HB.out.below J1.out.2.1 HB.out.lt).two
    go_wp2
    go_ret
    exact HR.out 3 _ J1.out.2.1
  · rw [if_neg hok]
    rw [bcE_no hok] at K1
    clear hno hb
    go_enter Try.func25, Try.ntmps25
    go_wp2_with fail
    refine (K1.out _).mono ?_
    rintro e w1 ⟨rfl, b1⟩
    have J1 := Lib.hid (J0.out.below b1)
    clear b1
    go_wp2
    go_ret
    exact HR.out 130 _ J1.out.2.1
set_option maxRecDepth 100000 in
set_option maxHeartbeats 4000000 in
theorem bag_add (O : List Nat) (g : Nat) (l : List PQ) (p q : Int) (w : World) (h : BagAt w O g l) (hok : okP (p, q)) (hl : l.length < 4096) :
    Calls Try.prog 25 #[.pointer (some ⟨g, 0, none⟩), .agg #[.int .i64 p, .int .i64 q]] w fun e w' => ∃ k, CutQ (fun x => byB x.1 x.2 p q) l k ∧ BgR w O g 0 (insS l k (p, q)) e w' := by
  have HH := Lib.hid h
  obtain ⟨gB, c, bs, hO, hb, hB, hgn, hOk, hfl, hU, -⟩ := h
  obtain ⟨hp, hq⟩ := okP_I64 hok
  have J0 := Lib.hid ((Keeps.start w).alloc #[.int .i64 p, .int .i64 q] 24)
  obtain ⟨s0, s1, _, _⟩ := J0.out.head.two
  have K1 := Lib.hid (fun W => bag_check (some ⟨g, 0, none⟩) p q hp hq W)
  rw [if_neg (by simp), bcE_ok hok] at K1
  have HB := Lib.hid hb
  have HOK := Lib.hid hok
  have hfew := hOk.few
  rw [hfl] at hfew
  have HBK := Lib.hid hB
  have HIN := Lib.hid (show O = g :: memB gB bs ∧ g ∉ memB gB bs ∧ OkL bs ∧ flat bs = l ∧ UpS l ∧ bs.length ≤ 4097 ∧ bs.length ≤ c ∧ l.length < 4096 from ⟨hO, hgn, hOk, hfl, hU, by omega, hB.cap, hl⟩)
  obtain ⟨N, hN⟩ : ∃ N, N = l.length := ⟨_, rfl⟩
  obtain ⟨nb, hnb⟩ : ∃ nb, nb = bs.length := ⟨_, rfl⟩
  rw [← hN, ← hnb] at HB
  have hN1 : ¬ ((N : Int) = 4096) := by omega
  have hwN : IntKind.i64.wrap ((N : Int) + 1) = ((N + 1 : Nat) : Int) := by rw [IntKind.wrap_i64]; omega
  have HN := Lib.hid hN
  have HNB := Lib.hid hnb
  clear hO hb hB hgn hOk hfl hU hfew hl hN hnb
  go_enter Try.func25, Try.ntmps25
  go_wp2_with fail
  refine (K1.out _).mono ?_
  rintro e w1 ⟨rfl, b1⟩
  have J1 := Lib.hid (J0.out.below b1)
  clear b1 s0 s1
  obtain ⟨x0, x1, f0, f1⟩ := (HB.out.below J1.out.2.1 HB.out.lt).two
  obtain ⟨s0, s1, _, _⟩ := J1.out.head.two
  go_upto_region 6 with fail
  have J2 := Lib.hid (J1.out.alloc #[.int .i64 p, .int .i64 q] 24)
  obtain ⟨x2, x3, _, _⟩ := (HB.out.below J2.out.2.1 HB.out.lt).two
  have KF : Hid (∀ W : World, Below (w1.heap.size + 1) (w1.alloc (.cells #[.int .i64 p, .int .i64 q] 24)) W → Calls Try.prog 88 #[.slice (some ⟨gB, 0, none⟩) nb c, .func (.func 145) #[] #[.pointer (some ⟨w1.heap.size, 0, none⟩)]] W fun e w' => ∃ d r : Nat, e = .returned (.tuple #[.int .i64 d, .int .i64 r]) ∧ Hid ((d < bs.length ∧ r ≤ lnA bs d ∧ CutQ (fun x => byB x.1 x.2 p q) l (sumA bs d + r)) ∧ Below w1.heap.size w1 w')) := fun W hbW => by
    have hJ := J2.out.below (by simp only [alloc_size']; exact hbW)
    obtain ⟨-, -, hOk, hfl, hU, -, hcap, hl⟩ := HIN.out
    have hOB := hOk.okB (by rw [hfl]; omega)
    have hM := hU.mono2 HOK.out
    have hM' : MonoQ (fun x => byB x.1 x.2 p q) (flat bs) := by rw [hfl]; exact hM
    have hsz := hbW.size
    rw [alloc_size'] at hsz
    have hlies := (HBK.out.below hJ.2.1).lies
    rw [HNB.out]
    refine (bag_find gB c 145 W.heap.size _ (fun x => byB x.1 x.2 p q) bs W (enters_of Try.func145 (by kernel_rfl) rfl) (Nat.le_refl _) hlies hOB (bag_tells p q hp hq w1.heap.size _ W hJ.head (by omega)) (hM'.m1 hOB) hM'.m2).mono ?_
    rintro e w' ⟨d, r, rfl, hd, hr, F1, T1, F2, T2, hb'⟩
    have hcq := CutQ.of hM' hOB hd hr F1 T1 F2 T2
    rw [hfl] at hcq
    refine ⟨d, r, rfl, ⟨hd, hr, hcq⟩, ?_⟩
    exact ((Below.refl _ w1).alloc (Nat.le_refl _) _).trans ((hbW.mono (by omega)).trans (hb'.mono (by omega)))
  go_cut [6, 7] from 18 to 28 (fun a b wx => ∃ d r : Nat, a = .int .i64 d ∧ b = .int .i64 r ∧ Hid ((d < bs.length ∧ r ≤ lnA bs d ∧ CutQ (fun x => byB x.1 x.2 p q) l (sumA bs d + r)) ∧ Below w1.heap.size w1 wx))
  case first =>
    go_wp2_with fail
    go_region_with (first
      | (go_at_call 85; refine (bag_beyond p q _).mono ?_; rintro e w2 ⟨rfl, rfl⟩)
      | (go_at_call 88; refine (KF.out _ ?_).mono ?_; (first | exact Below.refl _ _ | exact (Below.refl _ _).drew | exact below_drewN (Below.refl _ _) _); rintro e w3 ⟨d, r, rfl, HDR⟩))
    all_goals
      go_wp2_with fail
      simp only [Act.put, List.getElem_toArray, List.getElem_cons_succ, List.getElem_cons_zero, List.setIfInBounds_toArray, List.set_cons_succ, List.set_cons_zero]
      go_meet
      exact ⟨d, r, rfl, rfl, HDR⟩
  case rest =>
  obtain ⟨d, r, rfl, rfl, HDR⟩ := hcut
  have J3 := Lib.hid (J1.out.below HDR.out.2)
  clear x0 x1 f0 f1 s0 s1 x2 x3
  obtain ⟨s0, s1, _, _⟩ := J3.out.head.two
  have HB3 := Lib.hid (HB.out.below J3.out.2.1 HB.out.lt)
  obtain ⟨y0, y1, g0, g1⟩ := HB3.out.two
  have KP : Hid (∀ W : World, Below wc.heap.size wc W → Calls Try.prog 89 #[.slice (some ⟨gB, 0, none⟩) nb c, .int .i64 d, .int .i64 r, .agg #[.int .i64 p, .int .i64 q]] W fun e w' => ∃ g' c' n' : Nat, e = .returned (.slice (some ⟨g', 0, none⟩) n' c') ∧ (w'.cell? ⟨g, 0, none⟩ = some (.slice (some ⟨gB, 0, none⟩) nb c) ∧ w'.frozen? ⟨g, 0, none⟩ = false) ∧
      Hid (∃ bs', n' = bs'.length ∧ BksAt w' g' c' bs' ∧ WrS O w w' ∧ (∀ x ∈ memB g' bs', x ∈ memB gB bs ∨ w.heap.size ≤ x) ∧ Box w' g #[.slice (some ⟨gB, 0, none⟩) nb c, .int .i64 N] 126 ∧ flat bs' = insS l (sumA bs d + r) (p, q) ∧ OkL bs')) := fun W hW => by
    obtain ⟨hO, hgn, hOk, hfl, hU, hlen, hcap, hl⟩ := HIN.out
    obtain ⟨⟨hd, hr, hcq⟩, hbw⟩ := HDR.out
    have hbW : Below w.heap.size w W := J3.out.2.1.trans (hW.mono J3.out.2.1.size)
    have K := put_bag gB c bs d r g p q _ _ _ W (HBK.out.below hbW) hgn hOk hd hr (by omega) HOK.out (HB.out.below hbW HB.out.lt)
    rw [← HNB.out] at K
    refine K.mono ?_
    rintro e w' ⟨g', c', bs', rfl, h1, h2, h3, h4, h5, h6⟩
    refine ⟨g', c', bs'.length, rfl, ⟨(h4.cell 0).trans rfl, h4.free 0⟩, bs', rfl, h1, (WrS.of O hbW).trans h2 fun x hx => Or.inl (by rw [hO]; exact List.mem_cons_of_mem _ hx), fun x hx => (h3 x hx).imp id fun h => by have := hbW.size; omega, h4, by rw [h5, hfl], h6⟩
  go_upto_region 7 with fail
  go_cut [4] from 29 to 39 (fun v wx => ∃ (g' c' n' : Nat) (W5 : World), v = .int .i64 0 ∧ wx = W5.setCell ⟨g, 0, none⟩ (.slice (some ⟨g', 0, none⟩) n' c') ∧
      Hid (∃ bs', n' = bs'.length ∧ BksAt W5 g' c' bs' ∧ WrS O w W5 ∧ (∀ x ∈ memB g' bs', x ∈ memB gB bs ∨ w.heap.size ≤ x) ∧ Box W5 g #[.slice (some ⟨gB, 0, none⟩) nb c, .int .i64 N] 126 ∧ flat bs' = insS l (sumA bs d + r) (p, q) ∧ OkL bs'))
  case first =>
    go_wp2_with fail
    go_region_with (first
      | (go_at_call 89; refine (KP.out _ ?_).mono ?_; (first | exact Below.refl _ _ | exact (Below.refl _ _).drew | exact below_drewN (Below.refl _ _) _); rintro e w5 ⟨g', c', n', rfl, ⟨z0, z1⟩, HQ⟩))
    all_goals
      go_wp2_with fail
      go_meet
      exact ⟨g', c', n', _, rfl, rfl, HQ⟩
  case rest =>
  obtain ⟨g', c', n', W5, rfl, rfl, HQ⟩ := hcut
  have HZ : Hid (Box (W5.setCell ⟨g, 0, none⟩ (.slice (some ⟨g', 0, none⟩) n' c')) g #[.slice (some ⟨g', 0, none⟩) n' c', .int .i64 N] 126) := by
    obtain ⟨bs', -, -, -, -, hbx, -⟩ := HQ.out
    exact hbx.set 0 _
  obtain ⟨z0, z1, h0, h1⟩ := HZ.out.two
  clear y0 y1 g0 g1 s0 s1
  generalize hW6 : W5.setCell ⟨g, 0, none⟩ (.slice (some ⟨g', 0, none⟩) n' c') = W6 at *
  have HW6 := Lib.hid hW6
  clear hW6
  go_wp2
  go_ret
  obtain ⟨bs', hn', h2, h3, h4, h5, h6, h7⟩ := HQ.out
  obtain ⟨hO, hgn, hOk, hfl, hU, hlen, hcap, hl⟩ := HIN.out
  obtain ⟨⟨hd, hr, hcq⟩, hbw⟩ := HDR.out
  have hgl := HB.out.lt
  have hgn' : g ∉ memB g' bs' := fun hx => by
    rcases h4 g hx with k | k
    · exact hgn k
    · omega
  have hkeep : ∀ x ∈ memB g' bs', ((W6.setCell ⟨g, 1, none⟩ (.int .i64 (N + 1 : Nat))).heap[x]? = W5.heap[x]?) := fun x hx => by
    have hne : x ≠ g := fun e => hgn' (by rw [← e]; exact hx)
    rw [← HW6.out]
    exact (Below.heap_setCell _ _ _ _ hne).trans (Below.heap_setCell _ _ _ _ hne)
  refine ⟨sumA bs d + r, hcq, rfl, g :: memB g' bs', ⟨g', c', bs', rfl, ?_, h2.keep hkeep, hgn', h7, h6, hU.ins HOK.out hcq, ?_⟩, ?_, ?_⟩
  · have := HZ.out.set 1 (.int .i64 (N + 1 : Nat))
    rw [hn'] at this
    rw [insS_len l _ (p, q) hcq.le, ← HN.out]
    exact this
  · rw [insS_len l _ (p, q) hcq.le]; omega
  · rw [← HW6.out]
    exact (h3.trans (WrS.cell O _ g 0 _ (by rw [hO]; simp)) fun x hx => Or.inl hx).trans (WrS.cell O _ g 1 _ (by rw [hO]; simp)) fun x hx => Or.inl hx
  · intro x hx
    rcases List.mem_cons.1 hx with rfl | hx
    · exact Or.inl (by rw [hO]; simp)
    · exact (h4 x hx).imp (fun k => by rw [hO]; exact List.mem_cons_of_mem _ k) id
end Go.Proofs.Ytaeodkpkgbjaeaa
