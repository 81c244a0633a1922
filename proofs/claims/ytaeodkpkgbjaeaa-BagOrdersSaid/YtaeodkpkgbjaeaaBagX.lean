/- Layer 18 (bag): put. -/
import Derived.Test.YtaeodkpkgbjaeaaBagW
namespace Go.Proofs.Ytaeodkpkgbjaeaa
open Go.RowKit
set_option linter.unusedVariables false
set_option linter.unusedSimpArgs false

/-- what put gives -/
def PutR (w : World) (gB : Nat) (A C : List Blk) (b : Blk) (r : Nat) (s : PQ) (e : Ending) (w' : World) : Prop :=
  ∃ bs', BkR w gB (A ++ b :: C) bs' e w' ∧ flat bs' = insS (flat (A ++ b :: C)) ((flat A).length + r) s ∧ (OkL (A ++ b :: C) → okP s → OkL bs')
theorem insS_ok {l : List PQ} {k : Nat} {s : PQ} (h : ∀ x ∈ l, okP x) (hs : okP s) : ∀ x ∈ insS l k s, okP x := fun x hx => by
  rcases insS_mem hx with rfl | g
  · exact hs
  · exact h x g
set_option maxRecDepth 100000 in
set_option maxHeartbeats 4000000 in
theorem bag_put_room (A C : List Blk) (b : Blk) (gB c d m r : Nat) (p q : Int) (w : World) (h : BksAt w gB c (A ++ b :: C)) (hd : A.length = d) (hm : b.2.length = m) (h64 : m < 64) (hr : r ≤ m) (hn4 : (A ++ b :: C).length ≤ 90000) :
    Calls Try.prog 89 #[.slice (some ⟨gB, 0, none⟩) (A ++ b :: C).length c, .int .i64 d, .int .i64 r, .agg #[.int .i64 p, .int .i64 q]] w (PutR w gB A C b r (p, q)) := by
  have J0 := Lib.hid ((Keeps.start w).alloc #[.int .i64 p, .int .i64 q] 24)
  have H := Lib.hid (h.below J0.out.2.1)
  have HS := Lib.hid J0.out.head
  have hcap := h.cap
  have hltM := h.ltM
  have hws : w.heap.size ≠ gB ∧ w.heap.size ≠ b.1 := by
    have h1 := hltM gB (by unfold memB; simp)
    have h2 := hltM b.1 (by unfold memB; simp)
    omega
  have c1 := H.out.row.mid
  rw [hd] at c1
  unfold blkV at c1
  rw [hm] at c1
  have hne : ¬ ((m : Int) = 64) := by omega
  have hdn : (d : Int) < ((A ++ b :: C).length : Int) := by simp; omega
  obtain ⟨n, hn⟩ : ∃ n, n = (A ++ b :: C).length := ⟨_, rfl⟩
  rw [← hn] at hcap hdn ⊢
  have HB0 := Lib.hid J0.out.2.1
  have HN := Lib.hid hn
  clear h hltM hn J0
  go_enter Try.func89, Try.ntmps89
  go_upto_region 5 with fail
  generalize hW : w.alloc (.cells #[.int .i64 p, .int .i64 q] 24) = W at *
  clear hW c1
  obtain ⟨L1, L2, o, u0, u1, ha, hif, hcq, hbs, hu0, hu1, hfr, hgd, hX⟩ := put_tail W A C b gB c d m r w.heap.size p q H.out hd hm h64 hr HS.out hws
  have HA := Lib.hid (ha 28)
  have HC := Lib.hid hcq
  have HX := Lib.hid hX
  obtain ⟨z0, z1, _, _⟩ := HS.out.two
  obtain ⟨y0, y1, _, _⟩ := hbs.two
  have gq0 := H.out.row.mid
  rw [hd] at gq0
  unfold blkV at gq0
  rw [hm] at gq0
  have i0 := hfr (r * 2)
  have i1 := hfr (r * 2 + 1)
  obtain ⟨gd, gf⟩ := hgd
  have hm64 := h64
  have hrm := hr
  obtain ⟨m1, hm1⟩ : ∃ m1, m1 = m + 1 := ⟨_, rfl⟩
  obtain ⟨r1, hr1⟩ : ∃ r1, r1 = r + 1 := ⟨_, rfl⟩
  rw [← hm1] at HA HC HX
  rw [← hr1] at HC hif
  have hwr1 : IntKind.i64.wrap ((r : Int) + 1) = (r1 : Int) := by rw [IntKind.wrap_i64]; omega
  have k1 : (d : Int) < (n : Int) := hdn
  have k2 : r1 ≤ m1 := by omega
  have k3 : r ≤ m1 := by omega
  have k4 : ¬ (64 = r) := by omega
  have k5 : (r : Int) < (m1 : Int) := by omega
  have k6 : m1 ≤ 64 := by omega
  have k7 : n ≤ c := hcap
  have P1 := Lib.hid (show Below W.heap.size W (W.alloc (.cells #[.int .i64 p, .int .i64 q] 24)) from (Below.refl _ _).alloc (Nat.le_refl _) _)
  obtain ⟨z2, z3, _, _⟩ := (HS.out.below P1.out HS.out.lt).two
  have gq2 := (H.out.row.keep (P1.out.block gB H.out.row.lt)).mid
  rw [hd] at gq2
  unfold blkV at gq2
  rw [hm] at gq2
  unfold pw1 at *
  have HM1 := Lib.hid hm1
  have HR1 := Lib.hid hr1
  clear ha hcq hX hbs hfr hm1 hr1
  obtain ⟨hne1, -⟩ := memB_ne H.out.nd
  have hne2 := Ne.symm hne1
  go_cut [9] from 9 to 31 (fun l wx => l = .slice (some ⟨b.1, 0, none⟩) m1 64 ∧ wx = ((W.alloc (.cells #[.int .i64 p, .int .i64 q] 24)).drew).setRow b.1 L1.toArray)
  case first =>
    go_wp2_with fail
    go_region_law (refine step_of_wp rfl (wp_app_run _ (.tmp 28) (.tmp 30) 28 28 rfl _ _ (by simp [Act.eval, Act.put]) (by simp [Act.eval, Act.put]) HA.out ?_))
    all_goals
      go_wp2_with fail
      go_meet
      exact ⟨rfl, rfl⟩
  case rest =>
  obtain ⟨rfl, rfl⟩ := hcut
  have hq := HC.out 3 (64 - r1) (64 - r)
  go_upto_region 6 with fail
  go_region
  clear hq HC HA z0 z1 z2 z3 gq0 gq2 hif k2 k3 k4 k6 hwr1
  generalize ((((W.alloc (.cells #[.int .i64 p, .int .i64 q] 24)).drew).setRow b.1 L1.toArray).drew).setRow b.1 L2.toArray = W3 at *
  go_wp2
  go_ret
  obtain ⟨hBk, hWr⟩ := HX.out _ rfl
  refine ⟨A ++ (b.1, insS b.2 r (p, q)) :: C, ⟨gB, c, by rw [HN.out]; simp, hBk, (WrS.of _ HB0.out).trans hWr fun x hx => Or.inl hx, fun x hx => Or.inl ?_⟩, flat_put (by omega), fun hO hs => hO.put ?_ ?_ (insS_ok (hO.nums b (by simp)) hs)⟩
  · rwa [memB_swap (b := b) (b' := (b.1, insS b.2 r (p, q))) rfl] at hx
  · rw [insS_len _ _ _ (by omega)]; omega
  · rw [insS_len _ _ _ (by omega)]; omega
set_option maxRecDepth 100000 in
set_option maxHeartbeats 4000000 in
theorem bag_put_low (A C : List Blk) (b : Blk) (gB c d r : Nat) (p q : Int) (w : World) (h : BksAt w gB c (A ++ b :: C)) (hd : A.length = d) (hm : b.2.length = 64) (hr : r ≤ 32) (hn4 : (A ++ b :: C).length ≤ 90000) :
    Calls Try.prog 89 #[.slice (some ⟨gB, 0, none⟩) (A ++ b :: C).length c, .int .i64 d, .int .i64 r, .agg #[.int .i64 p, .int .i64 q]] w (PutR w gB A C b r (p, q)) := by
  have J0 := Lib.hid ((Keeps.start w).alloc #[.int .i64 p, .int .i64 q] 24)
  have hH0 := h.below J0.out.2.1
  have HS0 := Lib.hid J0.out.head
  have hcap := h.cap
  have hltM := h.ltM
  have hwsM : w.heap.size ∉ memB gB (A ++ b :: C) := fun hm => by have := hltM _ hm; omega
  have c1 := hH0.row.mid
  rw [hd] at c1
  unfold blkV at c1
  rw [hm] at c1
  have K := Lib.hid (bag_split A C b gB c d _ hH0 hd hm hn4)
  have hdn : (d : Int) < ((A ++ b :: C).length : Int) := by simp; omega
  obtain ⟨n, hn⟩ : ∃ n, n = (A ++ b :: C).length := ⟨_, rfl⟩
  rw [← hn] at hcap hdn K ⊢
  have HB0 := Lib.hid J0.out.2.1
  have HN := Lib.hid hn
  have HN4 := Lib.hid hn4
  have HWS := Lib.hid hwsM
  have HM := Lib.hid hm
  have HD := Lib.hid hd
  have hrr : ¬ (32 : Int) < (r : Int) := by omega
  clear h hltM hn J0 hH0 hn4 hwsM hm hd
  go_enter Try.func89, Try.ntmps89
  go_wp2_with fail
  refine K.out.mono ?_
  rintro e W ⟨g', c', rfl, hbk, hwr, hnew⟩
  have hszW : w.heap.size < w.heap.size + 1 := Nat.lt_succ_self _
  have HS := Lib.hid (hwr.box HS0.out HWS.out)
  have hws' : w.heap.size ∉ memB g' (A ++ (b.1, b.2.take 32) :: ((w.alloc (.cells #[.int .i64 p, .int .i64 q] 24)).heap.size, b.2.drop 32) :: C) := fun hx => by
    rcases hnew _ hx with g | g
    · exact HWS.out g
    · rw [alloc_size'] at g; omega
  have HWR := Lib.hid hwr
  have HNEW := Lib.hid hnew
  have hm := HM.out
  have hd := HD.out
  have hsz2 : w.heap.size < (w.alloc (.cells #[.int .i64 p, .int .i64 q] 24)).heap.size := by simp
  generalize (w.alloc (.cells #[.int .i64 p, .int .i64 q] 24)).heap.size = g2 at *
  have hcap2 := hbk.cap
  obtain ⟨n2, hn2⟩ : ∃ n2, n2 = (A ++ (b.1, b.2.take 32) :: (g2, b.2.drop 32) :: C).length := ⟨_, rfl⟩
  rw [← hn2] at hcap2 ⊢
  have HN2 := Lib.hid hn2
  have hdn2 : (d : Int) < (n2 : Int) := by rw [hn2]; simp; omega
  have H : Hid (BksAt W g' c' (A ++ (b.1, b.2.take 32) :: ((g2, b.2.drop 32) :: C))) := hbk
  have hm2 : ((b.1, b.2.take 32) : Blk).2.length = 32 := by show (b.2.take 32).length = 32; rw [List.length_take, hm]; rfl
  have hws : w.heap.size ≠ g' ∧ w.heap.size ≠ ((b.1, b.2.take 32) : Blk).1 := ⟨fun e => hws' (by unfold memB; simp [e]), fun e => hws' (by unfold memB; simp; exact Or.inr (Or.inr (Or.inl e)))⟩
  have h64 : (32 : Nat) < 64 := by omega
  clear hbk hwr hnew hws' hn2 K c1 HS0
  go_upto_region 5 with fail
  obtain ⟨L1, L2, o, u0, u1, ha, hif, hcq, hbs, hu0, hu1, hfr, hgd, hX⟩ := put_tail W A ((g2, b.2.drop 32) :: C) (b.1, b.2.take 32) g' c' d 32 r w.heap.size p q H.out hd hm2 h64 hr HS.out hws
  have HA := Lib.hid (ha 28)
  have HC := Lib.hid hcq
  have HX := Lib.hid hX
  obtain ⟨z0, z1, _, _⟩ := HS.out.two
  obtain ⟨y0, y1, _, _⟩ := hbs.two
  have gq0 := H.out.row.mid
  rw [hd] at gq0
  unfold blkV at gq0
  rw [hm2] at gq0
  have i0 := hfr (r * 2)
  have i1 := hfr (r * 2 + 1)
  obtain ⟨gd, gf⟩ := hgd
  have hm64 := h64
  have hrm := hr
  obtain ⟨m1, hm1⟩ : ∃ m1, m1 = 32 + 1 := ⟨_, rfl⟩
  obtain ⟨r1, hr1⟩ : ∃ r1, r1 = r + 1 := ⟨_, rfl⟩
  rw [← hm1] at HA HC HX
  rw [← hr1] at HC hif
  have hwr1 : IntKind.i64.wrap ((r : Int) + 1) = (r1 : Int) := by rw [IntKind.wrap_i64]; omega
  have k1 : (d : Int) < (n2 : Int) := hdn2
  have k2 : r1 ≤ m1 := by omega
  have k3 : r ≤ m1 := by omega
  have k4 : ¬ (64 = r) := by omega
  have k5 : (r : Int) < (m1 : Int) := by omega
  have k6 : m1 ≤ 64 := by omega
  have k7 : n2 ≤ c' := hcap2
  have P1 := Lib.hid (show Below W.heap.size W (W.alloc (.cells #[.int .i64 p, .int .i64 q] 24)) from (Below.refl _ _).alloc (Nat.le_refl _) _)
  obtain ⟨z2, z3, _, _⟩ := (HS.out.below P1.out HS.out.lt).two
  have gq2 := (H.out.row.keep (P1.out.block g' H.out.row.lt)).mid
  rw [hd] at gq2
  unfold blkV at gq2
  rw [hm2] at gq2
  unfold pw1 at *
  have HM1 := Lib.hid hm1
  have HR1 := Lib.hid hr1
  clear ha hcq hX hbs hfr hm1 hr1
  obtain ⟨hne1, -⟩ := memB_ne H.out.nd
  have hne2 := Ne.symm hne1
  go_cut [9] from 9 to 31 (fun l wx => l = .slice (some ⟨(b.1, b.2.take 32).1, 0, none⟩) m1 64 ∧ wx = ((W.alloc (.cells #[.int .i64 p, .int .i64 q] 24)).drew).setRow (b.1, b.2.take 32).1 L1.toArray)
  case first =>
    go_wp2_with fail
    go_region_law (refine step_of_wp rfl (wp_app_run _ (.tmp 28) (.tmp 30) 28 28 rfl _ _ (by simp [Act.eval, Act.put]) (by simp [Act.eval, Act.put]) HA.out ?_))
    all_goals
      go_wp2_with fail
      go_meet
      exact ⟨rfl, rfl⟩
  case rest =>
  obtain ⟨rfl, rfl⟩ := hcut
  have hq := HC.out 3 (64 - r1) (64 - r)
  go_upto_region 6 with fail
  go_region
  clear hq HC HA z0 z1 z2 z3 gq0 gq2 hif k2 k3 k4 k6 hwr1
  generalize ((((W.alloc (.cells #[.int .i64 p, .int .i64 q] 24)).drew).setRow (b.1, b.2.take 32).1 L1.toArray).drew).setRow (b.1, b.2.take 32).1 L2.toArray = W3 at *
  go_wp2
  go_ret
  obtain ⟨hBk, hWr⟩ := HX.out _ rfl
  have hws2 : ∀ x ∈ memB g' (A ++ (b.1, insS (b.2.take 32) r (p, q)) :: (g2, b.2.drop 32) :: C), x ∈ memB g' (A ++ (b.1, b.2.take 32) :: (g2, b.2.drop 32) :: C) := fun x hx => by rwa [memB_swap (b := (b.1, b.2.take 32)) (b' := (b.1, insS (b.2.take 32) r (p, q))) rfl] at hx
  have hl32 : (b.2.take 32).length = 32 := hm2
  refine ⟨A ++ (b.1, insS (b.2.take 32) r (p, q)) :: (g2, b.2.drop 32) :: C, ⟨g', c', by rw [HN2.out]; simp, hBk, ((WrS.of _ HB0.out).trans HWR.out fun x hx => Or.inl hx).trans hWr fun x hx => ?_, fun x hx => ?_⟩, ?_, fun hO hs => ?_⟩
  · rcases HNEW.out x hx with g | g
    · exact Or.inl g
    · right; omega
  · rcases HNEW.out x (hws2 x hx) with g | g
    · exact Or.inl g
    · right; omega
  · have e := flat_put (A := A) (C := (g2, b.2.drop 32) :: C) (b := (b.1, b.2.take 32)) (r := r) (s := (p, q)) (by show r ≤ (b.2.take 32).length; omega)
    have e2 : flat (A ++ (b.1, b.2.take 32) :: (g2, b.2.drop 32) :: C) = flat (A ++ b :: C) := by simp only [flat_app, flat_cons]; rw [← List.append_assoc (b.2.take 32), List.take_append_drop]
    rw [e2] at e
    exact e
  · have hO2 : OkL (A ++ (b.1, b.2.take 32) :: (g2, b.2.drop 32) :: C) := hO.split (b1 := (b.1, b.2.take 32)) (b2 := (g2, b.2.drop 32)) (by show 0 < (b.2.take 32).length; omega) (by show 0 < (b.2.drop 32).length; rw [List.length_drop]; omega) (List.take_append_drop 32 b.2)
    exact hO2.put (by show 0 < (insS (b.2.take 32) r (p, q)).length; rw [insS_len _ _ _ (by omega)]; omega) (by show (insS (b.2.take 32) r (p, q)).length ≤ 64; rw [insS_len _ _ _ (by omega)]; omega) (insS_ok (hO2.nums (b.1, b.2.take 32) (by simp)) hs)
set_option maxRecDepth 100000 in
set_option maxHeartbeats 4000000 in
theorem bag_put_high (A C : List Blk) (b : Blk) (gB c d r : Nat) (p q : Int) (w : World) (h : BksAt w gB c (A ++ b :: C)) (hd : A.length = d) (hm : b.2.length = 64) (hr : 32 < r ∧ r ≤ 64) (hn4 : (A ++ b :: C).length ≤ 90000) :
    Calls Try.prog 89 #[.slice (some ⟨gB, 0, none⟩) (A ++ b :: C).length c, .int .i64 d, .int .i64 r, .agg #[.int .i64 p, .int .i64 q]] w (PutR w gB A C b r (p, q)) := by
  have J0 := Lib.hid ((Keeps.start w).alloc #[.int .i64 p, .int .i64 q] 24)
  have hH0 := h.below J0.out.2.1
  have HS0 := Lib.hid J0.out.head
  have hcap := h.cap
  have hltM := h.ltM
  have hwsM : w.heap.size ∉ memB gB (A ++ b :: C) := fun hm => by have := hltM _ hm; omega
  have c1 := hH0.row.mid
  rw [hd] at c1
  unfold blkV at c1
  rw [hm] at c1
  have K := Lib.hid (bag_split A C b gB c d _ hH0 hd hm hn4)
  have hdn : (d : Int) < ((A ++ b :: C).length : Int) := by simp; omega
  obtain ⟨n, hn⟩ : ∃ n, n = (A ++ b :: C).length := ⟨_, rfl⟩
  rw [← hn] at hcap hdn K ⊢
  have HB0 := Lib.hid J0.out.2.1
  have HN := Lib.hid hn
  have HN4 := Lib.hid hn4
  have HWS := Lib.hid hwsM
  have HM := Lib.hid hm
  have HD := Lib.hid hd
  have hrr : (32 : Int) < (r : Int) := by omega
  clear h hltM hn J0 hH0 hn4 hwsM hm hd
  go_enter Try.func89, Try.ntmps89
  go_wp2_with fail
  refine K.out.mono ?_
  rintro e W ⟨g', c', rfl, hbk, hwr, hnew⟩
  have hszW : w.heap.size < w.heap.size + 1 := Nat.lt_succ_self _
  have HS := Lib.hid (hwr.box HS0.out HWS.out)
  have hws' : w.heap.size ∉ memB g' (A ++ (b.1, b.2.take 32) :: ((w.alloc (.cells #[.int .i64 p, .int .i64 q] 24)).heap.size, b.2.drop 32) :: C) := fun hx => by
    rcases hnew _ hx with g | g
    · exact HWS.out g
    · rw [alloc_size'] at g; omega
  have HWR := Lib.hid hwr
  have HNEW := Lib.hid hnew
  have hm := HM.out
  have hd := HD.out
  have hsz2 : w.heap.size < (w.alloc (.cells #[.int .i64 p, .int .i64 q] 24)).heap.size := by simp
  generalize (w.alloc (.cells #[.int .i64 p, .int .i64 q] 24)).heap.size = g2 at *
  have hcap2 := hbk.cap
  obtain ⟨n2, hn2⟩ : ∃ n2, n2 = (A ++ (b.1, b.2.take 32) :: (g2, b.2.drop 32) :: C).length := ⟨_, rfl⟩
  rw [← hn2] at hcap2 ⊢
  have HN2 := Lib.hid hn2
  have hdn2 : (d + 1 : Int) < (n2 : Int) := by rw [hn2]; simp; omega
  have H : Hid (BksAt W g' c' ((A ++ [(b.1, b.2.take 32)]) ++ (g2, b.2.drop 32) :: C)) := by
    show BksAt _ _ _ _
    rw [List.append_assoc]; exact hbk
  have hm2 : ((g2, b.2.drop 32) : Blk).2.length = 32 := by show (b.2.drop 32).length = 32; rw [List.length_drop, hm]
  have hws : w.heap.size ≠ g' ∧ w.heap.size ≠ ((g2, b.2.drop 32) : Blk).1 := ⟨fun e => hws' (by unfold memB; simp [e]), fun e => hws' (by unfold memB; simp; exact Or.inr (Or.inr (Or.inr (Or.inl e))))⟩
  have h64 : (32 : Nat) < 64 := by omega
  obtain ⟨d1, hd1⟩ : ∃ d1, d1 = d + 1 := ⟨_, rfl⟩
  obtain ⟨r2, hr2⟩ : ∃ r2, r2 = r - 32 := ⟨_, rfl⟩
  have hwd : IntKind.i64.wrap ((d : Int) + 1) = (d1 : Int) := by rw [IntKind.wrap_i64]; have := HN4.out; simp at this; omega
  have hwr2 : IntKind.i64.wrap ((r : Int) - 32) = (r2 : Int) := by rw [IntKind.wrap_i64]; omega
  have hd2 : (A ++ [(b.1, b.2.take 32)]).length = d1 := by simp; omega
  have hdn3 : (d1 : Int) < (n2 : Int) := by omega
  have hr3 : r2 ≤ 32 := by omega
  have HR2 := Lib.hid hr2
  have HD1 := Lib.hid hd1
  clear hbk hwr hnew hws' hn2 K c1 HS0 hd1 hr2 hdn2
  go_upto_region 5 with fail
  obtain ⟨L1, L2, o, u0, u1, ha, hif, hcq, hbs, hu0, hu1, hfr, hgd, hX⟩ := put_tail W (A ++ [(b.1, b.2.take 32)]) C (g2, b.2.drop 32) g' c' d1 32 r2 w.heap.size p q H.out hd2 hm2 h64 hr3 HS.out hws
  have HA := Lib.hid (ha 28)
  have HC := Lib.hid hcq
  have HX := Lib.hid hX
  obtain ⟨z0, z1, _, _⟩ := HS.out.two
  obtain ⟨y0, y1, _, _⟩ := hbs.two
  have gq0 := H.out.row.mid
  rw [hd2] at gq0
  unfold blkV at gq0
  rw [hm2] at gq0
  have i0 := hfr (r2 * 2)
  have i1 := hfr (r2 * 2 + 1)
  obtain ⟨gd, gf⟩ := hgd
  have hm64 := h64
  have hrm := hr3
  obtain ⟨m1, hm1⟩ : ∃ m1, m1 = 32 + 1 := ⟨_, rfl⟩
  obtain ⟨r1, hr1⟩ : ∃ r1, r1 = r2 + 1 := ⟨_, rfl⟩
  rw [← hm1] at HA HC HX
  rw [← hr1] at HC hif
  have hwr1 : IntKind.i64.wrap ((r2 : Int) + 1) = (r1 : Int) := by rw [IntKind.wrap_i64]; omega
  have k1 : (d1 : Int) < (n2 : Int) := hdn3
  have k2 : r1 ≤ m1 := by omega
  have k3 : r2 ≤ m1 := by omega
  have k4 : ¬ (64 = r2) := by omega
  have k5 : (r2 : Int) < (m1 : Int) := by omega
  have k6 : m1 ≤ 64 := by omega
  have k7 : n2 ≤ c' := hcap2
  have P1 := Lib.hid (show Below W.heap.size W (W.alloc (.cells #[.int .i64 p, .int .i64 q] 24)) from (Below.refl _ _).alloc (Nat.le_refl _) _)
  obtain ⟨z2, z3, _, _⟩ := (HS.out.below P1.out HS.out.lt).two
  have gq2 := (H.out.row.keep (P1.out.block g' H.out.row.lt)).mid
  rw [hd2] at gq2
  unfold blkV at gq2
  rw [hm2] at gq2
  unfold pw1 at *
  have HM1 := Lib.hid hm1
  have HR1 := Lib.hid hr1
  clear ha hcq hX hbs hfr hm1 hr1
  obtain ⟨hne1, -⟩ := memB_ne H.out.nd
  have hne2 := Ne.symm hne1
  go_cut [9] from 9 to 31 (fun l wx => l = .slice (some ⟨(g2, b.2.drop 32).1, 0, none⟩) m1 64 ∧ wx = ((W.alloc (.cells #[.int .i64 p, .int .i64 q] 24)).drew).setRow (g2, b.2.drop 32).1 L1.toArray)
  case first =>
    go_wp2_with fail
    go_region_law (refine step_of_wp rfl (wp_app_run _ (.tmp 28) (.tmp 30) 28 28 rfl _ _ (by simp [Act.eval, Act.put]) (by simp [Act.eval, Act.put]) HA.out ?_))
    all_goals
      go_wp2_with fail
      go_meet
      exact ⟨rfl, rfl⟩
  case rest =>
  obtain ⟨rfl, rfl⟩ := hcut
  have hq := HC.out 3 (64 - r1) (64 - r2)
  go_upto_region 6 with fail
  go_region
  clear hq HC HA z0 z1 z2 z3 gq0 gq2 hif k2 k3 k4 k6 hwr1
  generalize ((((W.alloc (.cells #[.int .i64 p, .int .i64 q] 24)).drew).setRow (g2, b.2.drop 32).1 L1.toArray).drew).setRow (g2, b.2.drop 32).1 L2.toArray = W3 at *
  go_wp2
  go_ret
  obtain ⟨hBk, hWr⟩ := HX.out _ rfl
  have hl32 : (b.2.drop 32).length = 32 := hm2
  have hl31 : (b.2.take 32).length = 32 := by rw [List.length_take, hm]; rfl
  have ea : ∀ z : Blk, (A ++ [(b.1, b.2.take 32)]) ++ z :: C = A ++ (b.1, b.2.take 32) :: z :: C := fun z => by simp
  rw [ea, ea] at *
  have hws2 : ∀ x ∈ memB g' (A ++ (b.1, b.2.take 32) :: (g2, insS (b.2.drop 32) r2 (p, q)) :: C), x ∈ memB g' (A ++ (b.1, b.2.take 32) :: (g2, b.2.drop 32) :: C) := fun x hx => by
    have := memB_swap (gB := g') (A := A ++ [(b.1, b.2.take 32)]) (C := C) (b := (g2, b.2.drop 32)) (b' := (g2, insS (b.2.drop 32) r2 (p, q))) rfl
    rw [ea, ea] at this
    rwa [this] at hx
  refine ⟨A ++ (b.1, b.2.take 32) :: (g2, insS (b.2.drop 32) r2 (p, q)) :: C, ⟨g', c', by rw [HN2.out]; simp, hBk, ((WrS.of _ HB0.out).trans HWR.out fun x hx => Or.inl hx).trans hWr fun x hx => ?_, fun x hx => ?_⟩, ?_, fun hO hs => ?_⟩
  · rcases HNEW.out x hx with g | g
    · exact Or.inl g
    · right; omega
  · rcases HNEW.out x (hws2 x hx) with g | g
    · exact Or.inl g
    · right; omega
  · have e := flat_put (A := A ++ [(b.1, b.2.take 32)]) (C := C) (b := (g2, b.2.drop 32)) (r := r2) (s := (p, q)) (by show r2 ≤ (b.2.drop 32).length; omega)
    have e2 : flat (A ++ (b.1, b.2.take 32) :: (g2, b.2.drop 32) :: C) = flat (A ++ b :: C) := by simp only [flat_app, flat_cons]; rw [← List.append_assoc (b.2.take 32), List.take_append_drop]
    have e3 : (flat (A ++ [(b.1, b.2.take 32)])).length + r2 = (flat A).length + r := by
      have := HR2.out
      rw [flat_app, List.length_append]; simp only [flat, List.flatMap_cons, List.flatMap_nil, List.append_nil, hl31]; omega
    rw [ea, ea, e2, e3] at e
    exact e
  · have hO2 : OkL (A ++ (b.1, b.2.take 32) :: (g2, b.2.drop 32) :: C) := hO.split (b1 := (b.1, b.2.take 32)) (b2 := (g2, b.2.drop 32)) (by show 0 < (b.2.take 32).length; omega) (by show 0 < (b.2.drop 32).length; omega) (List.take_append_drop 32 b.2)
    rw [← ea] at hO2
    have := hO2.put (b' := (g2, insS (b.2.drop 32) r2 (p, q))) (by show 0 < (insS (b.2.drop 32) r2 (p, q)).length; rw [insS_len _ _ _ (by omega)]; omega) (by show (insS (b.2.drop 32) r2 (p, q)).length ≤ 64; rw [insS_len _ _ _ (by omega)]; omega) (insS_ok (hO2.nums (g2, b.2.drop 32) (by simp)) hs)
    rwa [ea] at this
theorem bag_put (A C : List Blk) (b : Blk) (gB c d r : Nat) (p q : Int) (w : World) (h : BksAt w gB c (A ++ b :: C)) (hd : A.length = d) (hm : b.2.length ≤ 64) (hr : r ≤ b.2.length) (hn4 : (A ++ b :: C).length ≤ 90000) :
    Calls Try.prog 89 #[.slice (some ⟨gB, 0, none⟩) (A ++ b :: C).length c, .int .i64 d, .int .i64 r, .agg #[.int .i64 p, .int .i64 q]] w (PutR w gB A C b r (p, q)) := by
  rcases Nat.lt_or_ge b.2.length 64 with g | g
  · exact bag_put_room A C b gB c d b.2.length r p q w h hd rfl g hr hn4
  · have e : b.2.length = 64 := by omega
    rcases Nat.lt_or_ge 32 r with k | k
    · exact bag_put_high A C b gB c d r p q w h hd e ⟨k, by omega⟩ hn4
    · exact bag_put_low A C b gB c d r p q w h hd e k hn4
end Go.Proofs.Ytaeodkpkgbjaeaa
