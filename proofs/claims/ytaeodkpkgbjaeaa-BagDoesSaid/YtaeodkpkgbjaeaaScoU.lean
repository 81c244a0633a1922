/- The reference's Sort and Same of layer 13. -/
import Derived.Test.YtaeodkpkgbjaeaaScoR
namespace Go.Proofs.Ytaeodkpkgbjaeaa
open Go.RowKit
set_option linter.unusedVariables false
set_option linter.unusedSimpArgs false
set_option maxRecDepth 100000

theorem app_scL {B : Nat} {W : World} {ops : Array Oper} {rest : List Oper} {o : Oper} {a : Act} {Q : Exit → Act → World → Prop} (hgd : o.guard = none) (s x : Operand)
    (ho : o.op = .call { callee := .builtin .append, args := #[s, x], argTypes := #[28, 28] })
    (v : Value) (l : List PQ) (p q : Int) (g : Nat) (hs : a.eval s = v) (hx : a.eval x = .slice (some ⟨g, 0, none⟩) 1 1) (hown : OwnS W B v l) (hb : Box W g #[.int .i64 p, .int .i64 q] 24)
    (hB : B ≤ W.heap.size) (hn : l.length ≤ 1000000)
    (h : ∀ v' w', OwnS w' B v' (l ++ [(p, q)]) → Below B W w' → wpList Try.prog ops Q rest (a.put o.dst v') w') : wpList Try.prog ops Q (o :: rest) a W :=
  wpList_plain hgd fun _ hK => app_sc s x ho v l p q g hs hx hown hb hB hn fun v' w' h1 h2 => hK _ _ (h v' w' h1 h2)
theorem box_new' (W : World) (cs : Array Value) (t : TypeId) (g : Nat) (hg : W.heap.size = g) : Box (W.alloc (.cells cs t)) g cs t := by
  subst hg; exact Box.new W cs t
theorem own_empty (w : World) {B : Nat} (hB : B ≤ w.heap.size) : OwnS (w.alloc (.cells #[] 24)) B (.slice (some ⟨w.heap.size, 0, none⟩) 0 0) [] :=
  ⟨rfl, .inr ⟨w.heap.size, 0, #[], rfl, hB, heap_alloc_new w _, Nat.le_refl _, by unfold maxLen; omega, rfl, rfl⟩⟩
/-- a row, or none yet -/
def RowA (w : World) (v : Value) (s : List PQ) (n : Nat) : Prop := s.length = n ∧ ((n = 0 ∧ v = .slice none 0 0) ∨ ∃ ad c, v = .slice (some ad) n c ∧ n ≤ c ∧ LiesS w w.heap.size (some ad) s)
theorem RowA.below {w w' : World} {v : Value} {s : List PQ} {n : Nat} (h : RowA w v s n) (hb : Below w.heap.size w w') : RowA w' v s n := by
  refine ⟨h.1, ?_⟩
  rcases h.2 with h0 | ⟨ad, c, e, hc, hL⟩
  · exact .inl h0
  · exact .inr ⟨ad, c, e, hc, (hL.below hb).mono hb.size⟩
theorem OwnS.rowA {w : World} {B : Nat} {v : Value} {s : List PQ} {n : Nat} (h : OwnS w B v s) (hn : s.length = n) : RowA w v s n := by
  subst hn
  refine ⟨rfl, ?_⟩
  rcases h.2 with ⟨rfl, h1⟩ | ⟨g, cap, cur, rfl, hbg, hh, hnc, hr⟩
  · exact .inl ⟨h1, rfl⟩
  · obtain ⟨A, c, e, hL⟩ := OwnS.lies h
    cases e
    exact .inr ⟨_, cap, rfl, hnc, hL⟩
set_option maxHeartbeats 1000000 in
theorem ref13_sort_ok (A : Option Addr) (l : List PQ) (N c : Nat) (w : World) (hN : l.length = N) (hn : N ≤ 100000) (hL : LiesS w w.heap.size A l) (hI : okS l) (hok : allS l = true) :
    Calls Try.prog 98 #[.slice A N c] w (SortT l w) := by
  have KC := Lib.hid (ref13_all A l c w hL hI (by omega))
  rw [hok, hN] at KC
  have HA := Lib.hid hL
  have HN := Lib.hid hN
  have HOK := Lib.hid (fun k (hk : k < N) => all_okP hok (l.getD k pq0) (by rw [List.getD_eq_getElem?_getD, List.getElem?_eq_getElem (hN ▸ hk)]; exact List.getElem_mem _))
  have HALL := Lib.hid (all_okP hok)
  clear hL hI hok hN
  go_enter Try.func98, Try.ntmps98
  go_wp2_with fail
  refine KC.out.mono ?_
  rintro e w1 ⟨rfl, b⟩
  have HB := Lib.hid b
  clear b
  go_wp2
  go_loopw [4, 5] (fun ov iv wr => ∃ (i : Nat) (s : List PQ), i ≤ N ∧ iv = .int .i64 i ∧ Hid (RowA wr ov s i) ∧ Hid (IsSort (l.take i) s) ∧ Hid (Below w.heap.size w wr)) (fun _ iv _ => N - (intOf iv).toNat)
  case atStart => exact ⟨0, [], by omega, rfl, ⟨rfl, .inl ⟨rfl, rfl⟩⟩, IsSort.small (l := []) (by simp), HB⟩
  case round =>
    obtain ⟨i, s, hi, rfl, HR, HS, HW⟩ := hrel
    by_cases hlt : i < N
    · obtain ⟨wo, hwo⟩ : ∃ wo : World, wo = wr := ⟨_, rfl⟩
      subst hwo
      obtain ⟨hsl, hrow⟩ := HR.out
      have HAr : Hid (LiesS wo w.heap.size A l) := HA.out.below HW.out
      obtain ⟨ad, rfl, hbk, c0, c1⟩ := HAr.out.at (k := i) (by have := HN.out; omega)
      have o1 := HOK.out i hlt
      have hIns : Hid (∀ k, (∀ y ∈ s.take k, leS y (l.getD i pq0)) → (k < s.length → ¬ leS (s.getD k pq0) (l.getD i pq0)) → IsSort (l.take (i + 1)) (insS s k (l.getD i pq0))) := fun k h1 h2 => by
        have e : l.take (i + 1) = l.take i ++ [l.getD i pq0] := by
          have hi' : i < l.length := by have := HN.out; omega
          rw [List.getD_eq_getElem?_getD, List.getElem?_eq_getElem hi', Option.getD_some]
          exact (List.take_append_getElem hi').symm
        rw [e]
        exact HS.out.insert (fun y hy => HALL.out y (List.mem_of_mem_take hy)) o1 h1 h2
      have hSok : ∀ k, k < i → okP (s.getD k pq0) := fun k hk => by
        have : s.getD k pq0 ∈ s := by rw [List.getD_eq_getElem?_getD, List.getElem?_eq_getElem (by omega)]; exact List.getElem_mem _
        exact HALL.out _ (List.mem_of_mem_take (HS.out.1.mem_iff.1 this))
      have HSok := Lib.hid hSok
      have hx : l.getD i pq0 = ((l.getD i pq0).1, (l.getD i pq0).2) := rfl
      have HO1 := Lib.hid o1
      clear o1 hSok
      generalize l.getD i pq0 = x at *
      obtain ⟨p, q⟩ := x
      simp only at c0 c1
      have hsz := HW.out.size
      have g2 : (i : Int) < (N : Int) := by omega
      have g1 : (0 : Int) ≤ (i : Int) := by omega
      rcases hrow with ⟨rfl, rfl⟩ | ⟨sd, cs, rfl, hcs, hLs⟩
      · have hs0 : s = [] := List.eq_nil_of_length_eq_zero hsl
        subst hs0
        have HIS := Lib.hid (hIns.out 0 (by intro y hy; simp at hy) (fun h => absurd h (by simp)))
        rw [Nat.zero_mul, add_zeroS] at c0 c1
        have hbk1 : ad.block < wo.heap.size := by omega
        clear hIns HSok HO1 hx hsl
        go_wp2
        go_loopw [6] (fun kv wr => kv = .int .i64 0 ∧ Hid (Below wo.heap.size wo wr)) (fun _ _ => 0)
        case atStart => exact ⟨rfl, Below.refl _ _⟩
        case round =>
          obtain ⟨rfl, HV⟩ := hrel
          go_wp2
          go_quiet (fail)
          have HVd := Lib.hid (show Below wo.heap.size wo (wr.drewN nq) from below_drewN HV.out nq)
          have hWs : wo.heap.size ≤ (wr.drewN nq).heap.size := HVd.out.size
          have HE0 := Lib.hid (own_empty (wr.drewN nq) hWs)
          have HV1 := Lib.hid (HVd.out.alloc hWs (.cells #[] 24))
          have e0 : ((wr.drewN nq).alloc (.cells #[] 24)).cell? ad = some (.int .i64 p) := (HV1.out.cell hbk1).trans c0
          have e1 : ((wr.drewN nq).alloc (.cells #[] 24)).cell? ⟨ad.block, ad.off + 1, none⟩ = some (.int .i64 q) := (HV1.out.cell (show (⟨ad.block, ad.off + 1, none⟩ : Addr).block < _ from hbk1)).trans c1
          have hz3 : wo.heap.size ≤ (((wr.drewN nq).alloc (.cells #[] 24)).alloc (.cells #[.int .i64 p, .int .i64 q] 24)).heap.size := by rw [alloc_size', alloc_size']; omega
          have hz2 : wo.heap.size ≤ ((wr.drewN nq).alloc (.cells #[] 24)).heap.size := by rw [alloc_size']; omega
          have HBX := Lib.hid (box_new' ((wr.drewN nq).alloc (.cells #[] 24)) #[.int .i64 p, .int .i64 q] 24 (wr.heap.size + 1) (by rw [alloc_size']; rfl))
          have HE1 := Lib.hid (HE0.out.alloc (.cells #[.int .i64 p, .int .i64 q] 24))
          go_wp2_with (first | (at_builtin; refine app_none (B := wo.heap.size) rfl (.tmp 35) (.tmp 38) rfl _ [] rfl HE0.out rfl ?_) | (at_builtin; refine app_scL (B := wo.heap.size) rfl (.tmp 40) (.tmp 45) rfl _ [] p q (wr.heap.size + 1) rfl rfl HE1.out HBX.out hz3 (by simp) ?_; intro v4 w4 ho4 hb4; have HO4 := Lib.hid ho4; have HV4 := Lib.hid ((HV1.out.alloc hz2 (.cells #[.int .i64 p, .int .i64 q] 24)).trans hb4); clear ho4 hb4 e0 e1) | (at_builtin; refine app_none (B := wo.heap.size) rfl (.tmp 47) (.tmp 50) rfl _ ([] ++ [(p, q)]) rfl HO4.out rfl ?_))
          have HRA := Lib.hid (OwnS.rowA HO4.out (n := 1) rfl)
          have HW5 := Lib.hid (HW.out.trans (HV4.out.mono hsz))
          go_wp2
          go_roundw
          case rel => exact ⟨1, insS [] 0 (p, q), by omega, by go_num, HRA, HIS, HW5⟩
          case measure => simp [intOf]; omega
      · have HLs := Lib.hid hLs
        clear hLs
        go_wp2
        go_loopw [6] (fun kv wr => ∃ k : Nat, k ≤ i ∧ kv = .int .i64 k ∧ Hid (∀ y ∈ s.take k, leS y (p, q)) ∧ Hid (Below wo.heap.size wo wr)) (fun kv _ => i - (intOf kv).toNat)
        case atStart => exact ⟨0, by omega, rfl, (by intro y hy; simp at hy), Below.refl _ _⟩
        case round =>
          obtain ⟨k, hk, rfl, HT, HV⟩ := hrel
          have k1 : (0 : Int) ≤ (k : Int) := by omega
          have k2 : (k : Int) ≤ (i : Int) := by omega
          have hbv : Below w.heap.size wo wr := HV.out.mono hsz
          have hbs : wo.heap.size ≤ wr.heap.size := HV.out.size
          have hbk1 : ad.block < wo.heap.size := by omega
          have cc0 : wr.cell? (ad.add (i * 2)) = some (.int .i64 p) := (HV.out.cell (by rw [add_block]; exact hbk1)).trans c0
          have cc1 : wr.cell? ⟨(ad.add (i * 2)).block, (ad.add (i * 2)).off + 1, none⟩ = some (.int .i64 q) := (HV.out.cell (by show (ad.add _).block < _; rw [add_block]; exact hbk1)).trans c1
          by_cases hki : k < i
          · have hLk : Hid (LiesS wr wo.heap.size (some sd) s) := HLs.out.below HV.out
            obtain ⟨sd', e, hsb, d0, d1⟩ := hLk.out.at (k := k) (by omega)
            obtain rfl := Option.some.inj e
            have o2 := HSok.out k hki
            have HTX : Hid (leS (s.getD k pq0) (p, q) → ∀ y ∈ s.take (k + 1), leS y (p, q)) := fun h y hy => by
              have hk' : k < s.length := by omega
              rw [← List.take_append_getElem hk'] at hy
              rcases List.mem_append.1 hy with hy | hy
              · exact HT.out y hy
              · rw [List.mem_singleton] at hy
                rw [hy]
                rw [List.getD_eq_getElem?_getD, List.getElem?_eq_getElem hk'] at h
                exact h
            have HXN : Hid (¬ leS (s.getD k pq0) (p, q) → IsSort (l.take (i + 1)) (insS s k (p, q))) := fun h => hIns.out k HT.out (fun _ => h)
            have hle : leS (s.getD k pq0) (p, q) ↔ oddC (s.getD k pq0).1 (s.getD k pq0).2 p q ≤ 0 := Iff.rfl
            have KO := Lib.hid (fun W => ref13_odder (s.getD k pq0).1 (s.getD k pq0).2 p q o2 HO1.out W)
            rw [hle] at HTX HXN
            clear hle o2 e
            generalize oddC (s.getD k pq0).1 (s.getD k pq0).2 p q = R at *
            generalize (s.getD k pq0).1 = r at *
            generalize (s.getD k pq0).2 = z at *
            have k3 : (k : Int) < (i : Int) := by omega
            have k4 : (i : Int) ≤ (cs : Int) := by omega
            by_cases hR : R ≤ 0
            · have HTX := Lib.hid (HTX.out hR)
              clear HXN
              go_wp2
              go_region_held3 (fun wr => wr.cell? (sd.add (k * 2)) = some (.int .i64 r) ∧ wr.cell? ⟨(sd.add (k * 2)).block, (sd.add (k * 2)).off + 1, none⟩ = some (.int .i64 z) ∧ wr.cell? (ad.add (i * 2)) = some (.int .i64 p) ∧ wr.cell? ⟨(ad.add (i * 2)).block, (ad.add (i * 2)).off + 1, none⟩ = some (.int .i64 q)) (go_keep)
                (first | (go_at_call 28; ((with_reducible refine (KO.out _).mono ?_); rintro e w2 ⟨rfl, b2⟩; have q0 : w2.cell? (sd.add (k * 2)) = some (.int .i64 r) := (b2.cell (by rw [add_block]; exact Nat.lt_of_lt_of_le hsb hbs)).trans d0; have q1 : w2.cell? ⟨(sd.add (k * 2)).block, (sd.add (k * 2)).off + 1, none⟩ = some (.int .i64 z) := (b2.cell (by show (sd.add _).block < _; rw [add_block]; exact Nat.lt_of_lt_of_le hsb hbs)).trans d1; have q2 : w2.cell? (ad.add (i * 2)) = some (.int .i64 p) := (b2.cell (by rw [add_block]; exact Nat.lt_of_lt_of_le hbk1 hbs)).trans cc0; have q3 : w2.cell? ⟨(ad.add (i * 2)).block, (ad.add (i * 2)).off + 1, none⟩ = some (.int .i64 q) := (b2.cell (by show (ad.add _).block < _; rw [add_block]; exact Nat.lt_of_lt_of_le hbk1 hbs)).trans cc1; have HV2 := Lib.hid (show Below wo.heap.size wo w2 from HV.out.drew.trans (b2.mono hbs)); clear b2)))
              go_wp2
              exact ⟨⟨k + 1, by omega, by go_num, HTX, HV2⟩, by first | (simp [intOf]; done) | (simp [intOf]; omega)⟩
            · have hRn := hR
              have hRb : ¬ R ≤ 0 := hR
              have HX1 := Lib.hid (HXN.out hR)
              clear HTX HXN
              go_wp2
              go_region_held3 (fun wr => wr.cell? (sd.add (k * 2)) = some (.int .i64 r) ∧ wr.cell? ⟨(sd.add (k * 2)).block, (sd.add (k * 2)).off + 1, none⟩ = some (.int .i64 z) ∧ wr.cell? (ad.add (i * 2)) = some (.int .i64 p) ∧ wr.cell? ⟨(ad.add (i * 2)).block, (ad.add (i * 2)).off + 1, none⟩ = some (.int .i64 q)) (go_keep)
                (first | (go_at_call 28; ((with_reducible refine (KO.out _).mono ?_); rintro e w2 ⟨rfl, b2⟩; have q0 : w2.cell? (sd.add (k * 2)) = some (.int .i64 r) := (b2.cell (by rw [add_block]; exact Nat.lt_of_lt_of_le hsb hbs)).trans d0; have q1 : w2.cell? ⟨(sd.add (k * 2)).block, (sd.add (k * 2)).off + 1, none⟩ = some (.int .i64 z) := (b2.cell (by show (sd.add _).block < _; rw [add_block]; exact Nat.lt_of_lt_of_le hsb hbs)).trans d1; have q2 : w2.cell? (ad.add (i * 2)) = some (.int .i64 p) := (b2.cell (by rw [add_block]; exact Nat.lt_of_lt_of_le hbk1 hbs)).trans cc0; have q3 : w2.cell? ⟨(ad.add (i * 2)).block, (ad.add (i * 2)).off + 1, none⟩ = some (.int .i64 q) := (b2.cell (by show (ad.add _).block < _; rw [add_block]; exact Nat.lt_of_lt_of_le hbk1 hbs)).trans cc1; have HV2 := Lib.hid (show Below wo.heap.size wo w2 from HV.out.drew.trans (b2.mono hbs)); clear b2)))
              have HIS := Lib.hid (HX1.out)
              have hWs : wo.heap.size ≤ w2.heap.size := HV2.out.size
              have hkl : (s.take k).length = k := by rw [List.length_take]; omega
              have hdl : (s.drop k).length = i - k := by rw [List.length_drop]; omega
              have HE0 := Lib.hid (own_empty w2 hWs)
              have HL0 := Lib.hid ((HLs.out.below (HV2.out.alloc hWs (.cells #[] 24))).take k)
              have hz0 : wo.heap.size ≤ (w2.alloc (.cells #[] 24)).heap.size := by rw [alloc_size']; omega
              have hn4 : (s.take k ++ [(p, q)]).length + (i - k) ≤ 1000000 := by rw [List.length_append, List.length_singleton]; omega
              have hn0 : ([] : List PQ).length + k ≤ 1000000 := by simp; omega
              have hn1 : (s.take k).length ≤ 1000000 := by omega
              have hbk1' : ad.block < wo.heap.size := hbk1
              go_wp2_with (first | (at_builtin; refine app_rowL (B := wo.heap.size) rfl (.tmp 35) (.tmp 38) rfl _ [] (s.take k) sd cs k rfl rfl hkl HE0.out HL0.out hz0 hn0 ?_; intro v3 w3 ho3 hb3; have HO3 := Lib.hid ho3; have HV3 := Lib.hid ((HV2.out.alloc hWs (.cells #[] 24)).trans hb3); have e0 : w3.cell? (ad.add (i * 2)) = some (.int .i64 p) := (HV3.out.cell (by rw [add_block]; exact hbk1')).trans c0; have e1 : w3.cell? ⟨(ad.add (i * 2)).block, (ad.add (i * 2)).off + 1, none⟩ = some (.int .i64 q) := (HV3.out.cell (by show (ad.add _).block < _; rw [add_block]; exact hbk1')).trans c1; have hw3 := HV3.out.size; have hz3 : wo.heap.size ≤ (w3.alloc (.cells #[.int .i64 p, .int .i64 q] 24)).heap.size := (by rw [alloc_size']; omega); clear ho3 hb3) | (at_builtin; refine app_scL (B := wo.heap.size) rfl (.tmp 40) (.tmp 45) rfl _ (s.take k) p q w3.heap.size rfl rfl (HO3.out.alloc _) (Box.new _ _ _) hz3 hn1 ?_; intro v4 w4 ho4 hb4; have HO4 := Lib.hid ho4; have HV4 := Lib.hid ((HV3.out.alloc hw3 (.cells #[.int .i64 p, .int .i64 q] 24)).trans hb4); have hw4 := HV4.out.size; clear ho4 hb4 e0 e1) | (at_builtin; refine app_rowL (B := wo.heap.size) rfl (.tmp 47) (.tmp 50) rfl _ (s.take k ++ [(p, q)]) (s.drop k) (sd.add (k * 2)) (cs - k) (i - k) rfl rfl hdl HO4.out ((HLs.out.drop k).below HV4.out) hw4 hn4 ?_; intro v5 w5 ho5 hb5; have HO5 := Lib.hid ho5; have HV5 := Lib.hid (HV4.out.trans hb5); clear ho5 hb5))
              have HRA := Lib.hid (OwnS.rowA HO5.out (n := i + 1) (show (insS s k (p, q)).length = i + 1 by unfold insS; rw [List.length_append, List.length_append, hkl, hdl, List.length_singleton]; omega))
              have HW5 := Lib.hid (HW.out.trans (HV5.out.mono hsz))
              go_wp2
              go_roundw
              case rel => exact ⟨i + 1, insS s k (p, q), by omega, by go_num, HRA, HIS, HW5⟩
              case measure => simp [intOf]; omega
          · have hke : k = i := by omega
            subst hke
            have hki2 : ¬ (k : Int) < (k : Int) := by omega
            have hd0 : s.drop k = [] := List.drop_eq_nil_of_le (by omega)
            have HX1 := Lib.hid (hIns.out k HT.out (fun h => absurd h (by omega)))
            clear hki
            by_cases hck : cs = k
            · subst hck
              go_wp2
              go_quiet (fail)
              have HVd := Lib.hid (show Below wo.heap.size wo (wr.drewN nq) from below_drewN HV.out nq)
              have HIS := Lib.hid (HX1.out)
              have hWs : wo.heap.size ≤ (wr.drewN nq).heap.size := HVd.out.size
              have hkl : (s.take cs).length = cs := by rw [List.length_take]; omega
              have hdl : (s.drop cs).length = cs - cs := by rw [List.length_drop]; omega
              have HE0 := Lib.hid (own_empty (wr.drewN nq) hWs)
              have HL0 := Lib.hid ((HLs.out.below (HVd.out.alloc hWs (.cells #[] 24))).take cs)
              have hz0 : wo.heap.size ≤ ((wr.drewN nq).alloc (.cells #[] 24)).heap.size := by rw [alloc_size']; omega
              have hn4 : (s.take cs ++ [(p, q)]).length + 0 ≤ 1000000 := by rw [List.length_append, List.length_singleton]; omega
              have hn0 : ([] : List PQ).length + cs ≤ 1000000 := by simp; omega
              have hn1 : (s.take cs).length ≤ 1000000 := by omega
              have hbk1' : ad.block < wo.heap.size := hbk1
              go_wp2_with (first | (at_builtin; refine app_rowL (B := wo.heap.size) rfl (.tmp 35) (.tmp 38) rfl _ [] (s.take cs) sd cs cs rfl rfl hkl HE0.out HL0.out hz0 hn0 ?_; intro v3 w3 ho3 hb3; have HO3 := Lib.hid ho3; have HV3 := Lib.hid ((HVd.out.alloc hWs (.cells #[] 24)).trans hb3); have e0 : w3.cell? (ad.add (cs * 2)) = some (.int .i64 p) := (HV3.out.cell (by rw [add_block]; exact hbk1')).trans c0; have e1 : w3.cell? ⟨(ad.add (cs * 2)).block, (ad.add (cs * 2)).off + 1, none⟩ = some (.int .i64 q) := (HV3.out.cell (by show (ad.add _).block < _; rw [add_block]; exact hbk1')).trans c1; have hw3 := HV3.out.size; have hz3 : wo.heap.size ≤ (w3.alloc (.cells #[.int .i64 p, .int .i64 q] 24)).heap.size := (by rw [alloc_size']; omega); clear ho3 hb3) | (at_builtin; refine app_scL (B := wo.heap.size) rfl (.tmp 40) (.tmp 45) rfl _ (s.take cs) p q w3.heap.size rfl rfl (HO3.out.alloc _) (Box.new _ _ _) hz3 hn1 ?_; intro v4 w4 ho4 hb4; have HO4 := Lib.hid ho4; have HV4 := Lib.hid ((HV3.out.alloc hw3 (.cells #[.int .i64 p, .int .i64 q] 24)).trans hb4); have hw4 := HV4.out.size; clear ho4 hb4 e0 e1) | (at_builtin; refine app_rowL (B := wo.heap.size) rfl (.tmp 47) (.tmp 50) rfl _ (s.take cs ++ [(p, q)]) [] sd 0 0 rfl rfl rfl HO4.out (LiesS.nil (B := 0)) hw4 hn4 ?_; intro v5 w5 ho5 hb5; have HO5 : Hid (OwnS w5 wo.heap.size v5 (insS s cs (p, q))) := (by have := ho5; unfold insS; rw [hd0]; exact this); have HV5 := Lib.hid (HV4.out.trans hb5); clear ho5 hb5))
              have HRA := Lib.hid (OwnS.rowA HO5.out (n := cs + 1) (show (insS s cs (p, q)).length = cs + 1 by unfold insS; rw [List.length_append, List.length_append, hkl, hdl, List.length_singleton]; omega))
              have HW5 := Lib.hid (HW.out.trans (HV5.out.mono hsz))
              go_wp2
              go_roundw
              case rel => exact ⟨cs + 1, insS s cs (p, q), by omega, by go_num, HRA, HIS, HW5⟩
              case measure => simp [intOf]; omega
            · skip
              go_wp2
              go_quiet (fail)
              have HVd := Lib.hid (show Below wo.heap.size wo (wr.drewN nq) from below_drewN HV.out nq)
              have HIS := Lib.hid (HX1.out)
              have hWs : wo.heap.size ≤ (wr.drewN nq).heap.size := HVd.out.size
              have hkl : (s.take k).length = k := by rw [List.length_take]; omega
              have hdl : (s.drop k).length = k - k := by rw [List.length_drop]; omega
              have HE0 := Lib.hid (own_empty (wr.drewN nq) hWs)
              have HL0 := Lib.hid ((HLs.out.below (HVd.out.alloc hWs (.cells #[] 24))).take k)
              have hz0 : wo.heap.size ≤ ((wr.drewN nq).alloc (.cells #[] 24)).heap.size := by rw [alloc_size']; omega
              have hn4 : (s.take k ++ [(p, q)]).length + 0 ≤ 1000000 := by rw [List.length_append, List.length_singleton]; omega
              have hn0 : ([] : List PQ).length + k ≤ 1000000 := by simp; omega
              have hn1 : (s.take k).length ≤ 1000000 := by omega
              have hbk1' : ad.block < wo.heap.size := hbk1
              go_wp2_with (first | (at_builtin; refine app_rowL (B := wo.heap.size) rfl (.tmp 35) (.tmp 38) rfl _ [] (s.take k) sd cs k rfl rfl hkl HE0.out HL0.out hz0 hn0 ?_; intro v3 w3 ho3 hb3; have HO3 := Lib.hid ho3; have HV3 := Lib.hid ((HVd.out.alloc hWs (.cells #[] 24)).trans hb3); have e0 : w3.cell? (ad.add (k * 2)) = some (.int .i64 p) := (HV3.out.cell (by rw [add_block]; exact hbk1')).trans c0; have e1 : w3.cell? ⟨(ad.add (k * 2)).block, (ad.add (k * 2)).off + 1, none⟩ = some (.int .i64 q) := (HV3.out.cell (by show (ad.add _).block < _; rw [add_block]; exact hbk1')).trans c1; have hw3 := HV3.out.size; have hz3 : wo.heap.size ≤ (w3.alloc (.cells #[.int .i64 p, .int .i64 q] 24)).heap.size := (by rw [alloc_size']; omega); clear ho3 hb3) | (at_builtin; refine app_scL (B := wo.heap.size) rfl (.tmp 40) (.tmp 45) rfl _ (s.take k) p q w3.heap.size rfl rfl (HO3.out.alloc _) (Box.new _ _ _) hz3 hn1 ?_; intro v4 w4 ho4 hb4; have HO4 := Lib.hid ho4; have HV4 := Lib.hid ((HV3.out.alloc hw3 (.cells #[.int .i64 p, .int .i64 q] 24)).trans hb4); have hw4 := HV4.out.size; clear ho4 hb4 e0 e1) | (at_builtin; refine app_rowL (B := wo.heap.size) rfl (.tmp 47) (.tmp 50) rfl _ (s.take k ++ [(p, q)]) [] (sd.add (k * 2)) (cs - k) 0 rfl rfl rfl HO4.out (LiesS.nil (B := 0)) hw4 hn4 ?_; intro v5 w5 ho5 hb5; have HO5 : Hid (OwnS w5 wo.heap.size v5 (insS s k (p, q))) := (by have := ho5; unfold insS; rw [hd0]; exact this); have HV5 := Lib.hid (HV4.out.trans hb5); clear ho5 hb5))
              have HRA := Lib.hid (OwnS.rowA HO5.out (n := k + 1) (show (insS s k (p, q)).length = k + 1 by unfold insS; rw [List.length_append, List.length_append, hkl, hdl, List.length_singleton]; omega))
              have HW5 := Lib.hid (HW.out.trans (HV5.out.mono hsz))
              go_wp2
              go_roundw
              case rel => exact ⟨k + 1, insS s k (p, q), by omega, by go_num, HRA, HIS, HW5⟩
              case measure => simp [intOf]; omega
    · obtain rfl : i = N := by omega
      have hln : l.take i = l := List.take_of_length_le (by have := HN.out; omega)
      have HS2 : Hid (IsSort l s) := by have := HS.out; rw [hln] at this; exact this
      obtain ⟨hsl, hrow⟩ := HR.out
      rcases hrow with ⟨rfl, rfl⟩ | ⟨sd, cs, rfl, hcs, hLs⟩
      · have hs0 : s = [] := List.eq_nil_of_length_eq_zero hsl
        subst hs0
        have hl0 : l.length = 0 := HN.out
        have HX : Hid (Ending.returned (.tuple #[.slice none 0 0, .int .i64 0]) = .returned (.tuple #[.slice none l.length 0, .int .i64 0])) := by show _ = _; rw [hl0]
        clear hln hl0
        go_wp2
        go_ret2
        exact ⟨[], none, 0, HX.out, LiesS.nil, HW.out, HS2.out⟩
      · have HLs := Lib.hid hLs
        have HX : Hid (Ending.returned (.tuple #[.slice (some sd) i cs, .int .i64 0]) = .returned (.tuple #[.slice (some sd) l.length cs, .int .i64 0])) := by show _ = _; rw [HN.out]
        clear hLs hln
        go_wp2
        go_ret2
        exact ⟨s, some sd, cs, HX.out, HLs.out, HW.out, HS2.out⟩
end Go.Proofs.Ytaeodkpkgbjaeaa
