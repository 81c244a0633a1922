/- Layer 21 (bin): Text of a reader. -/
import Derived.Test.YtkfmebdpfjjkjaaBinI
import Derived.Test.YtkfmebdpfjjkjaaRegJ
namespace Go.Proofs.Ytkfmebdpfjjkjaa
open Go.RowKit
set_option linter.unusedVariables false
set_option linter.unusedSimpArgs false

theorem rT_err {b : List Int} {k : Nat} {e most : Int} (hb : byt b) (hk : k ≤ b.length) (h : (rT b k e most).1.2 ≠ 0) : (rT b k e most).1.1 = k ∧ (rT b k e most).2 = [] := by
  unfold rT at h ⊢
  by_cases h1 : (rN b k e most).1.2 ≠ 0
  · rw [if_pos h1]; exact ⟨(rN_err h1).1, rfl⟩
  · rw [if_neg h1] at h ⊢
    by_cases h2 : b.length - (rN b k e most).1.1 < (rN b k e most).2
    · rw [if_pos h2]; exact ⟨rfl, rfl⟩
    · rw [if_neg h2] at h; exact absurd rfl h
theorem rT_e {b : List Int} {k : Nat} {e most : Int} (h : e ≠ 0) : rT b k e most = ((k, e), []) := by
  unfold rT
  rw [rN_e h, if_pos h]
theorem OwnsY.keep {w w' : World} {B B' : Nat} {v : Value} {l : List Int} (h : OwnsY w B v l) (hB : B' ≤ B) (hk : ∀ j, B ≤ j → j < w.heap.size → w'.heap[j]? = w.heap[j]?) : OwnsY w' B' v l := by
  refine ⟨h.1, ?_⟩
  rcases h.2 with h0 | ⟨g, cap, cur, h1, hbg, hh, hr⟩
  · exact .inl h0
  · refine .inr ⟨g, cap, cur, h1, Nat.le_trans hB hbg, (hk g hbg ?_).trans hh, hr⟩
    rcases Nat.lt_or_ge g w.heap.size with h | h
    · exact h
    · rw [Array.getElem?_eq_none h] at hh; cases hh
theorem RdAt.low {w w' : World} {B g k S : Nat} {b : List Int} {e : Int} (h : RdAt w B g b k e) (hb : Below S w w') (hg : g < S) : RdAt w' B g b k e := by
  obtain ⟨A, c, h1, h2, h3, h4, h5, h6, h7, h8⟩ := h
  exact ⟨A, c, h1.below hb hg, h2, h3, h4, h5, h6, h7.below (hb.mono (Nat.le_of_lt hg)), h8⟩
theorem Wr.low2 {g : Nat} {a b c : World} (h : Wr g a b) (k : Below a.heap.size b c) : Wr g a c :=
  ⟨k.os.trans h.os, k.tape.trans h.tape, k.output.trans h.output, Nat.le_trans h.size k.size, fun i hi hg => (k.block i hi).trans (h.block i hi hg)⟩
def PTx : List (List Nat) := [[], [], [], [1, 2], [0, 3, 3], [4, 4], [5, 5, 0, 1, 2, 3, 4, 5]]
/-- what next gives at the end of a text -/
def NxT (B g : Nat) (b : List Int) (k1 : Nat) (e1 : Int) (n : Nat) (X : World) (v : Value) : Prop :=
  ∃ A c m y k2 e2, v = .slice A m c ∧ y.length = m ∧ RdAt X B g b k2 e2 ∧ LiesY X X.heap.size A y ∧ (A = none → c = 0) ∧ m ≤ 1000000 ∧ (n ≤ b.length - k1 → e2 = e1 ∧ k2 = k1 + n ∧ y = (b.drop k1).take n) ∧ (b.length - k1 < n → e2 = failE e1 210)
def ETx (B g : Nat) (b : List Int) (most : Int) (k1 : Nat) (e1 : Int) (n S : Nat) : EJ :=
  [(none, fun X v => v = .pointer (some ⟨g, 0, none⟩)), (none, fun X v => v = .pointer (some ⟨g, 0, none⟩)), (none, fun X v => v = .int .i64 most),
   (some 4, fun X v => v = .int .i64 (n : Nat) ∧ RdAt X B g b k1 e1), (some 5, fun X v => NxT B g b k1 e1 n X v),
   (none, fun X v => ∃ y k2 e2, OwnsY X S v y ∧ RdAt X B g b k2 e2 ∧ (n ≤ b.length - k1 → e2 = e1 ∧ k2 = k1 + n ∧ y = (b.drop k1).take n) ∧ (b.length - k1 < n → e2 = failE e1 210)),
   (none, fun X v => ∃ y k2 e2, OwnsY X S v y ∧ RdAt X B g b k2 e2 ∧ (n ≤ b.length - k1 → e2 = e1 ∧ k2 = k1 + n ∧ y = (b.drop k1).take n) ∧ (b.length - k1 < n → e2 = failE e1 210))]
set_option maxRecDepth 100000 in
set_option maxHeartbeats 8000000 in
theorem cl_Text {X0 : World} {B g k pa pb : Nat} {b : List Int} (most : Int) (hm : I64 most) (h : RdAt X0 B g b k 0) (ha : Box X0 pa #[.pointer (some ⟨g, 0, none⟩)] 53) (hb : Box X0 pb #[.int .i64 most] 3) (hag : pa ≠ g) (hbg : pb ≠ g) :
    Calls Try.prog 137 #[.pointer (some ⟨pa, 0, none⟩), .pointer (some ⟨pb, 0, none⟩)] X0 (PartR_bytes g B b (fun v w' k2 e2 => e2 = (rT b k 0 most).1.2 ∧ (e2 = 0 → k2 = (rT b k 0 most).1.1 ∧ OwnsY w' X0.heap.size v (rT b k 0 most).2)) X0) := by
  have KN := Lib.hid (fun W (h1 : RdAt W B g b k 0) => rd_N most hm h1)
  obtain ⟨hgl, hBg, hk, hbl, hby⟩ := h.lt
  have HFIN : Hid (∀ (v : Value) (W : World) y k2 e2, OwnsY W X0.heap.size v y → RdAt W B g b k2 e2 → Wr g X0 W → ((rN b k 0 most).2 ≤ b.length - (rN b k 0 most).1.1 → e2 = (rN b k 0 most).1.2 ∧ k2 = (rN b k 0 most).1.1 + (rN b k 0 most).2 ∧ y = (b.drop (rN b k 0 most).1.1).take (rN b k 0 most).2) → (b.length - (rN b k 0 most).1.1 < (rN b k 0 most).2 → e2 = failE (rN b k 0 most).1.2 210) → PartR_bytes g B b (fun v w' k2 e2 => e2 = (rT b k 0 most).1.2 ∧ (e2 = 0 → k2 = (rT b k 0 most).1.1 ∧ OwnsY w' X0.heap.size v (rT b k 0 most).2)) X0 (.returned v) W) := by
    intro v W y k2 e2 h1 h2 h3 h4 h5
    obtain ⟨A, c, rfl, -⟩ := h1.lies
    refine ⟨A, y.length, c, k2, e2, rfl, h2, h3, ?_⟩
    have hrt : rT b k 0 most = if (rN b k 0 most).1.2 ≠ 0 then ((rN b k 0 most).1, []) else if b.length - (rN b k 0 most).1.1 < (rN b k 0 most).2 then ((k, 210), []) else (((rN b k 0 most).1.1 + (rN b k 0 most).2, 0), (b.drop (rN b k 0 most).1.1).take (rN b k 0 most).2) := rfl
    rw [hrt]
    by_cases c1 : (rN b k 0 most).1.2 ≠ 0
    · rw [if_pos c1]
      obtain ⟨q1, q2⟩ := rN_err c1
      have := (h4 (by rw [q2]; omega)).1
      exact ⟨this, fun h => absurd (this ▸ h) c1⟩
    · rw [if_neg c1]
      by_cases c2 : b.length - (rN b k 0 most).1.1 < (rN b k 0 most).2
      · rw [if_pos c2]
        have := h5 c2
        have e1 : (rN b k 0 most).1.2 = 0 := by omega
        rw [e1] at this
        exact ⟨this, fun h => by rw [this] at h; simp [failE] at h⟩
      · rw [if_neg c2]
        obtain ⟨q1, q2, q3⟩ := h4 (by omega)
        exact ⟨by rw [q1]; simp only; omega, fun _ => ⟨q2, by rw [← q3]; exact h1⟩⟩
  have hn1 : (rN b k 0 most).1.1 ≤ b.length := by
    by_cases c1 : (rN b k 0 most).1.2 = 0
    · rw [(rN_bd c1).2.2]; exact rU_at hby hk
    · rw [(rN_err c1).1]; exact hk
  have HNB : Hid ((rN b k 0 most).2 ≤ 9223372036854775807) := by
    by_cases c1 : (rN b k 0 most).1.2 = 0
    · have := (rN_bd c1).1
      have := hm.2
      show _ ≤ _
      omega
    · rw [(rN_err c1).2]; exact Nat.zero_le _
  have HH := Lib.hid h
  have HA := Lib.hid ha
  have HB := Lib.hid hb
  generalize PartR_bytes g B b (fun v w' k2 e2 => e2 = (rT b k 0 most).1.2 ∧ (e2 = 0 → k2 = (rT b k 0 most).1.1 ∧ OwnsY w' X0.heap.size v (rT b k 0 most).2)) X0 = R at *
  generalize (rN b k 0 most).1.1 = k1 at *
  generalize (rN b k 0 most).1.2 = e1 at *
  generalize (rN b k 0 most).2 = n at *
  have KX : Hid (∀ W, RdAt W B g b k1 e1 → Calls Try.prog 138 #[.pointer (some ⟨g, 0, none⟩), .int .i64 (n : Nat)] W fun e w' => (∃ v, e = .returned v ∧ NxT B g b k1 e1 n w' v) ∧ Wr g W w') := fun W h1 => by
    by_cases c1 : b.length - k1 < n
    · refine (rd_next_short h1 n c1 HNB.out).mono fun e w' hg => ?_
      obtain ⟨g1, g2, g3⟩ := hg
      exact ⟨⟨_, g1, none, 0, 0, [], k1, failE e1 210, rfl, rfl, g2, LiesY.nil, fun _ => rfl, by omega, fun h => by omega, fun _ => rfl⟩, g3⟩
    · refine (rd_next_ok h1 n (by omega)).mono fun e w' hg => ?_
      obtain ⟨A2, c2, g1, g2, g3, g4, g5, g6⟩ := hg
      exact ⟨⟨_, g1, A2, c2, n, _, _, _, rfl, by rw [List.length_take, List.length_drop]; omega, g2, g4, g5, by omega, fun _ => ⟨rfl, rfl, rfl⟩, fun h => by omega⟩, g3⟩
  clear h ha hb
  go_enter Try.func137, Try.ntmps137
  go_wp2
  refine wp_region_steps (fun f vs X => GJ PTx (ETx B g b most k1 e1 n X0.heap.size) (fun X => Wr g X0 X) f vs X ∧ (f 3 = false → RdAt X B g b k 0)) PTx (by kernel_rfl) (by kernel_rfl) (by kernel_rfl) (by kernel_rfl) ?_ ?_ ?_ ?_
  · exact fun f g' vs X hfg h => ⟨GJ.congr (n := 7) (by decide) (by decide) (by simp [ETx]) (by simp [ETx]) hfg h.1, fun e => h.2 ((hfg 3 (by decide)).trans e)⟩
  · intro vs _
    exact ⟨GJ.start (Wr.of g (Below.refl _ _).drew), fun _ => HH.out.below (Below.refl _ _).drew⟩
  · refine ⟨?_, ?_, ?_, ?_, ?_, ?_, ?_, trivial⟩
    all_goals
      intro f vs X hlen hf hp hj K hK
      obtain ⟨y0, y1, y2, y3, y4, y5, y6, rfl⟩ := len7 hlen
      clear hlen
      have HJ := Lib.hid hj.1
      have HJ2 := Lib.hid hj.2
      clear hj
    · rw [if_pos (by rfl)]
      simp only [putAll, Act.put, List.setIfInBounds_toArray, List.set_cons_zero, List.set_cons_succ] at hK ⊢
      have q0 := ((HJ.out.1.box HA.out hag).cell 0).trans rfl
      go_simp
      refine hK _ X ?_
      exact ⟨HJ.out.step (i := 0) rfl hp (by simp) _ rfl rfl, fun h => HJ2.out (by simpa using h)⟩
    · rw [if_pos (by rfl)]
      simp only [putAll, Act.put, List.setIfInBounds_toArray, List.set_cons_zero, List.set_cons_succ] at hK ⊢
      have q0 := ((HJ.out.1.box HA.out hag).cell 0).trans rfl
      go_simp
      refine hK _ X ?_
      exact ⟨HJ.out.step (i := 1) rfl hp (by simp) _ rfl rfl, fun h => HJ2.out (by simpa using h)⟩
    · rw [if_pos (by rfl)]
      simp only [putAll, Act.put, List.setIfInBounds_toArray, List.set_cons_zero, List.set_cons_succ] at hK ⊢
      have q0 := ((HJ.out.1.box HB.out hbg).cell 0).trans rfl
      go_simp
      refine hK _ X ?_
      exact ⟨HJ.out.step (i := 2) rfl hp (by simp) _ rfl rfl, fun h => HJ2.out (by simpa using h)⟩
    · rw [if_pos (by rfl)]
      simp only [putAll, Act.put, List.setIfInBounds_toArray, List.set_cons_zero, List.set_cons_succ] at hK ⊢
      have e1' : y1 = .pointer (some ⟨g, 0, none⟩) := HJ.out.get (i := 1) rfl (hp 1 (by simp)) (fun k e => by cases e)
      have e2' : y2 = .int .i64 most := HJ.out.get (i := 2) rfl (hp 2 (by simp)) (fun k e => by cases e)
      subst e1'
      subst e2'
      go_simp
      refine (KN.out X (HJ2.out hf)).mono ?_
      rintro e w3 ⟨rfl, g1, g2⟩
      refine hK _ w3 ?_
      refine ⟨HJ.out.move (i := 3) rfl hp (by simp) _ (HJ.out.1.trans g2) rfl ⟨rfl, g1⟩ ?_, fun h => by simp at h⟩
      intro j u C y he hj hji hu hk hc
      have hj7 : j < 7 := by have := (List.getElem?_eq_some_iff.1 he).1; simpa [ETx] using this
      match j, hj7, he with
      | 0, _, he => cases he; exact hc
      | 1, _, he => cases he; exact hc
      | 2, _, he => cases he; exact hc
      | 3, _, he => exact absurd rfl hji
      | 4, _, he => exact absurd (HJ.out.pre (i := 4) (j := 3) rfl hj (by simp)) (by rw [hf]; simp)
      | 5, _, he => exact absurd (HJ.out.pre (i := 4) (j := 3) rfl (HJ.out.pre (i := 5) (j := 4) rfl hj (by simp)) (by simp)) (by rw [hf]; simp)
      | 6, _, he => exact absurd (HJ.out.pre (i := 6) (j := 3) rfl hj (by simp)) (by rw [hf]; simp)
    · rw [if_pos (by rfl)]
      simp only [putAll, Act.put, List.setIfInBounds_toArray, List.set_cons_zero, List.set_cons_succ] at hK ⊢
      have e0' : y0 = .pointer (some ⟨g, 0, none⟩) := HJ.out.get (i := 0) rfl (hp 0 (by simp)) (fun k e => by cases e)
      obtain ⟨e3', hr3⟩ := HJ.out.get (i := 3) rfl (hp 3 (by simp)) (fun k e => by cases e; exact hf)
      have e3' : y3 = .int .i64 (n : Nat) := e3'
      subst e0'
      subst e3'
      go_simp
      refine (KX.out X hr3).mono ?_
      rintro e w4 ⟨⟨v4, rfl, g1⟩, g2⟩
      refine hK _ w4 ?_
      refine ⟨HJ.out.move (i := 4) rfl hp (by simp) _ (HJ.out.1.trans g2) rfl g1 ?_, fun h => absurd (hp 3 (by simp)) (by simp at h; rw [h]; simp)⟩
      intro j u C y he hj hji hu hk hc
      have hj7 : j < 7 := by have := (List.getElem?_eq_some_iff.1 he).1; simpa [ETx] using this
      match j, hj7, he with
      | 0, _, he => cases he; exact hc
      | 1, _, he => cases he; exact hc
      | 2, _, he => cases he; exact hc
      | 3, _, he => exact absurd rfl (by cases he; exact hu)
      | 4, _, he => exact absurd rfl hji
      | 5, _, he => exact absurd (HJ.out.pre (i := 5) (j := 4) rfl hj (by simp)) (by rw [hf]; simp)
      | 6, _, he => exact absurd (HJ.out.pre (i := 6) (j := 4) rfl hj (by simp)) (by rw [hf]; simp)
    · rw [if_pos (by rfl)]
      simp only [putAll, Act.put, List.setIfInBounds_toArray, List.set_cons_zero, List.set_cons_succ] at hK ⊢
      obtain ⟨A, c, m, y, k2, e2, q1, q2, q3, q4, q5, q6, q7, q8⟩ := HJ.out.get (i := 4) rfl (hp 4 (by simp)) (fun k e => by cases e; exact hf)
      have q1 : y4 = .slice A m c := q1
      subst q1
      have hsz := HJ.out.1.size
      refine app_ownO (B := X0.heap.size) (.const (.slice none 0 0)) (.tmp 7) rfl (.slice none 0 0) [] y A c m rfl rfl q2 q5 (OwnsY.nil _ _) q4 hsz (by simp; omega) ?_
      intro v5 w5 g1 g2
      refine hK _ w5 ?_
      rw [List.nil_append] at g1
      refine ⟨HJ.out.move (i := 5) rfl hp (by simp) _ (HJ.out.1.low2 g2) rfl ⟨y, k2, e2, g1, q3.low g2 hgl, q7, q8⟩ ?_, fun h => absurd (HJ.out.pre (i := 4) (j := 3) rfl (hp 4 (by simp)) (by simp)) (by simp at h; rw [h]; simp)⟩
      intro j u C y he hj hji hu hk hc
      have hj7 : j < 7 := by have := (List.getElem?_eq_some_iff.1 he).1; simpa [ETx] using this
      match j, hj7, he with
      | 0, _, he => cases he; exact hc
      | 1, _, he => cases he; exact hc
      | 2, _, he => cases he; exact hc
      | 3, _, he => cases he; exact absurd (hk 4 rfl) (by rw [hp 4 (by simp)]; simp)
      | 4, _, he => exact absurd rfl (by cases he; exact hu)
      | 5, _, he => exact absurd rfl hji
      | 6, _, he => exact absurd (HJ.out.pre (i := 6) (j := 5) rfl hj (by simp)) (by rw [hf]; simp)
    · rw [if_pos (by rfl)]
      simp only [putAll, Act.put, List.setIfInBounds_toArray, List.set_cons_zero, List.set_cons_succ] at hK ⊢
      have h5 := HJ.out.get (i := 5) rfl (hp 5 (by simp)) (fun k e => by cases e)
      go_simp
      refine hK _ X ?_
      exact ⟨HJ.out.step (i := 6) rfl hp (by simp) _ rfl h5, fun h => HJ2.out (by simpa using h)⟩
  · intro vs X hl hj
    obtain ⟨y0, y1, y2, y3, y4, y5, y6, rfl⟩ := len7 hl
    obtain ⟨y, k2, e2, q1, q2, q3, q4⟩ := hj.1.get (i := 6) rfl rfl (fun k e => by cases e)
    have hw := hj.1.1
    have HR := Lib.hid (HFIN.out y6 X y k2 e2 q1 q2 hw q3 q4)
    clear hj q1 q2 q3 q4 hw
    simp only [putAll, Act.put, List.setIfInBounds_toArray, List.set_cons_zero, List.set_cons_succ]
    go_wp2
    first | exact HR.out | (go_ret; exact HR.out)
set_option maxRecDepth 100000 in
set_option maxHeartbeats 4000000 in
theorem rd_Text {w : World} {B g k : Nat} {b : List Int} {e0 : Int} (most : Int) (hm : I64 most) (h : RdAt w B g b k e0) :
    Calls Try.prog 73 #[.pointer (some ⟨g, 0, none⟩), .int .i64 most] w fun e w' => ∃ A c, e = .returned (.slice A (rT b k e0 most).2.length c) ∧ OwnsY w' w.heap.size (.slice A (rT b k e0 most).2.length c) (rT b k e0 most).2 ∧ RdAt w' B g b (rT b k e0 most).1.1 (rT b k e0 most).1.2 ∧ Wr g w w' := by
  have hmf : ∀ (fn : Fn) (first cap : Array Value) (w : World), (Instr.makeFunc fn first cap).run Try.prog w = .ok (.func fn first cap) w := fun _ _ _ _ => rfl
  have HX := Lib.hid (((Kpc.start w).alloc #[.pointer (some ⟨g, 0, none⟩)] 53).alloc #[.int .i64 most] 3)
  rw [alloc_size'] at HX
  obtain ⟨hg, hBg, hk, hbl, hby⟩ := h.lt
  have hX := h.below HX.out.2.1
  have x0 := (HX.out.tail.head.cell 0).trans rfl
  have hs2 : ((w.alloc (.cells #[.pointer (some ⟨g, 0, none⟩)] 53)).alloc (.cells #[.int .i64 most] 3)).heap.size = w.heap.size + 2 := by rw [alloc_size', alloc_size']
  have KR : Hid (Calls Try.prog 136 #[.pointer (some ⟨g, 0, none⟩), .func (.func 137) #[] #[.pointer (some ⟨w.heap.size, 0, none⟩), .pointer (some ⟨w.heap.size + 1, 0, none⟩)]] ((w.alloc (.cells #[.pointer (some ⟨g, 0, none⟩)] 53)).alloc (.cells #[.int .i64 most] 3)) fun e w' => ∃ A c, e = .returned (.slice A (rT b k e0 most).2.length c) ∧ OwnsY w' w.heap.size (.slice A (rT b k e0 most).2.length c) (rT b k e0 most).2 ∧ RdAt w' B g b (rT b k e0 most).1.1 (rT b k e0 most).1.2 ∧ Wr g w w') := by
    by_cases he : e0 = 0
    · subst he
      refine (read_ok_bytes w.heap.size (w.heap.size + 1) (fun v w' k2 e2 => e2 = (rT b k 0 most).1.2 ∧ (e2 = 0 → k2 = (rT b k 0 most).1.1 ∧ OwnsY w' (w.heap.size + 5) v (rT b k 0 most).2)) hX fun X hX1 hb1 hs => ?_).mono fun e w' hg => ?_
      · have := cl_Text most hm hX1 (HX.out.tail.head.below hb1 HX.out.tail.head.lt) (HX.out.head.below hb1 HX.out.head.lt) (by omega) (by omega)
        rw [hs, hs2] at this
        exact this
      obtain ⟨A, m, c, k2, e2, X1, ⟨g1, g2⟩, g3, gs, gj, g4, g5⟩ := hg
      by_cases h0 : e2 = 0
      · obtain ⟨rfl, g6⟩ := g4 h0
        obtain ⟨g7, g8⟩ := g2 h0
        obtain ⟨A', c', e', -⟩ := g8.lies
        rw [e'] at g8 ⊢
        rw [← g1, ← g7, h0]
        refine ⟨A', c', rfl, g8.keep (by omega) (fun j hj1 hj2 => ?_), g6, (Wr.of g HX.out.2.1).trans g3⟩
        exact gj j (by omega) (by omega)
      · obtain ⟨rfl, g6⟩ := g5 h0
        obtain ⟨g7, g8⟩ := rT_err (b := b) (k := k) (e := 0) (most := most) hby hk (by rw [← g1]; exact h0)
        rw [g8, g7, ← g1]
        exact ⟨none, 0, rfl, OwnsY.nil _ _, g6, (Wr.of g HX.out.2.1).trans g3⟩
    · rw [rT_e he]
      exact (read_no_bytes hX he _).mono fun e w' hg => ⟨none, 0, hg.1, OwnsY.nil _ _, hg.2.1, (Wr.of g HX.out.2.1).trans hg.2.2⟩
  clear h hX hs2
  generalize (rT b k e0 most).2 = y at *
  generalize (rT b k e0 most).1.1 = k9 at *
  generalize (rT b k e0 most).1.2 = e9 at *
  generalize hyl : y.length = yn at *
  have HYL := Lib.hid hyl
  clear hyl
  go_enter Try.func73, Try.ntmps73
  go_wp2_with fail
  refine (KR.out).mono ?_
  rintro e w1 ⟨A, c, rfl, g0, g1, g2⟩
  have H0 := Lib.hid g0
  have H1 := Lib.hid g1
  have H2 := Lib.hid g2
  clear g0 g1 g2
  go_wp2
  go_ret
  exact ⟨A, c, rfl, H0.out, H1.out, H2.out⟩
end Go.Proofs.Ytkfmebdpfjjkjaa
