/- The contract of copseref02.Text. -/
import Derived.Test.YtbnpbflndnjmcaaWideT
import Derived.Test.YtbnpbflndnjmcaaWideQ
import Derived.Laws.AppendOwnNone
namespace Go.Proofs.Ytbnpbflndnjmcaa
open Go.RowKit

theorem txt_len (k : Nat) : ∀ n : Nat, n < 10 ^ (k + 1) → (txt n).length ≤ k + 1 := by
  induction k with
  | zero => intro n h; rw [txt_small (by simpa using h)]; simp
  | succ k ih =>
    intro n h
    by_cases hs : n < 10
    · rw [txt_small hs]; simp
    · rw [txt_big hs, List.length_append]
      have := ih (n / 10) (by rw [Nat.pow_succ] at h; omega)
      simp only [List.length_cons, List.length_nil]; omega
theorem txt_ne (n : Nat) : txt n ≠ [] := by
  by_cases hs : n < 10
  · rw [txt_small hs]; simp
  · rw [txt_big hs]; simp
/-- what is still to be told, and what is told already, of n -/
def TextInv (N V : Int) (suf : List UInt8) : Prop := 0 ≤ V ∧ V < pw 40 ∧ (N = 0 → V = 0 ∧ suf = []) ∧ (0 < N → txt N.toNat = (if V = 0 then [] else txt V.toNat) ++ suf)
theorem textInv_step {N V : Int} {suf : List UInt8} (h : TextInv N V suf) (hV : 0 < V) (c : UInt8) (hc : (c.toNat : Int) = 48 + V % 10) : TextInv N (V / 10) (c :: suf) := by
  obtain ⟨h0, h1, h2, h3⟩ := h
  have hN : N ≠ 0 := fun hc => by have := (h2 hc).1; omega
  refine ⟨by omega, by omega, fun h => absurd h hN, fun hp => ?_⟩
  rw [h3 hp, if_neg (by omega)]
  have ec : c = UInt8.ofNat (48 + V.toNat % 10) := by
    apply UInt8.toNat_inj.1
    rw [UInt8.toNat_ofNat_of_lt' (by show _ < 256; omega)]; omega
  by_cases hs : V < 10
  · rw [if_pos (by omega), txt_small (by omega), ec]
    have : V.toNat % 10 = V.toNat := by omega
    rw [this]; rfl
  · rw [if_neg (by omega), txt_big (by omega), ec]
    have : (V / 10).toNat = V.toNat / 10 := by omega
    rw [this, List.append_assoc]; rfl
theorem textInv_len {N V : Int} {suf : List UInt8} (h : TextInv N V suf) (hV : 0 < V) (hN : 0 ≤ N ∧ N < 1000000000000000000000000000000000000000) : suf.length < 39 := by
  obtain ⟨h0, h1, h2, h3⟩ := h
  have hp : 0 < N := by
    rcases Int.lt_or_le 0 N with h | h
    · exact h
    · have := (h2 (by omega)).1; omega
  have h4 := h3 hp
  rw [if_neg (by omega)] at h4
  have h5 := txt_len 38 N.toNat (by show _ < 10 ^ 39; omega)
  have h6 := List.length_pos_iff.2 (txt_ne V.toNat)
  rw [h4, List.length_append] at h5
  omega
theorem textInv_end {N : Int} {suf : List UInt8} (h : TextInv N 0 suf) (hN : 0 ≤ N) : txt N.toNat = (if suf = [] then [48] else suf) := by
  obtain ⟨h0, h1, h2, h3⟩ := h
  by_cases hz : N = 0
  · rw [(h2 hz).2, if_pos rfl, hz]; exact txt_small (by decide)
  · have h4 := h3 (by omega)
    rw [if_pos rfl, List.nil_append] at h4
    have := txt_ne N.toNat
    rw [h4] at this
    rw [h4, if_neg this]

def strLen : Value → Nat | .string s => s.size | _ => 0
theorem digs_cons {Q e : Int} (he : 0 ≤ e ∧ e < 65536) (hQ : 0 ≤ Q) (h : 0 < e ∨ 0 < Q) : digs (Q * 65536 + e) = e :: digs Q := by
  rw [digs_s (by omega)]
  congr 1
  · omega
  · congr 1; omega
/-- the part of a tenth that is there -/
def NextIs (w : World) (Q : Int) (v : Value) : Prop := IsBig w Q v ∧ (Q = 0 → v = .slice none 0 0)
theorem NextIs.below {w w' : World} {Q : Int} {v : Value} (h : NextIs w Q v) (hb : Below w.heap.size w w') : NextIs w' Q v := ⟨h.1.below hb, h.2⟩
theorem own_one (B : Nat) (wr : World) (e : Int) (hB : B ≤ wr.heap.size) : (wr.alloc (.cells #[.int .i64 e] 3)).ownsRow B 3 1 (.slice (some ⟨wr.heap.size, 0, none⟩) 1 1) 1 (lits [e]) :=
  ⟨rfl, .inr ⟨wr.heap.size, 1, #[.int .i64 e], rfl, hB, heap_alloc_new wr _, by omega, by unfold maxLen; omega, rfl, rfl⟩⟩
/-- the rest of a number behind its lowest digit -/
theorem app_big {wr : World} {ops : Array Oper} {rest : List Oper} {o : Oper} {a : Act} {Q : Exit → Act → World → Prop} (hgd : o.guard = none) (s x : Operand)
    (ho : o.op = .call { callee := .builtin .append, args := #[s, x], argTypes := #[36, 36] })
    (e n : Int) (v : Value) (hn : NextIs wr n v) (he : 0 ≤ e ∧ e < 65536) (hen : 0 < e ∨ 0 < n) (hl : n < pw 40)
    (hs : a.eval s = .slice (some ⟨wr.heap.size, 0, none⟩) 1 1) (hx : a.eval x = v)
    (h : ∀ v' w', NextIs w' (n * 65536 + e) v' → Below wr.heap.size wr w' → wpList Try.prog ops Q rest (a.put o.dst v') w') :
    wpList Try.prog ops Q (o :: rest) a (wr.alloc (.cells #[.int .i64 e] 3)) := by
  obtain ⟨i0, hi, hz0, hz1, hz2⟩ := info_parts info_int
  obtain ⟨hb, hnil⟩ := hn
  have hown := own_one wr.heap.size wr e (Nat.le_refl _)
  rcases Int.lt_or_le 0 n with hp | hp
  · obtain ⟨h0, A, c, rfl, hL⟩ := hb
    have hpos : 0 < (digs n).length := by rw [digs_s hp]; simp
    obtain ⟨ad, rfl, hadb, hcell⟩ := hL hpos
    have h40 := digs_len n 40 hl
    refine wpList_append_own _ hgd s x 36 ho wr.heap.size 3 i0 (.int .i64 0) 1 8 Try.underlying36 hi hz0 hz1 hz2 rfl (by decide) _ 1 (lits [e]) hs hown ad (digs n).length c (lits (digs n)) hx (by rw [lits_len]; omega) ?_ ?_ ?_ ?_ ?_ ?_
    · intro j u hj
      have hjl : j < (digs n).length := by
        have := (List.getElem?_eq_some_iff.1 hj).1
        rw [lits_len] at this; exact this
      rw [lits_get _ j hjl] at hj
      rw [((Below.refl wr.heap.size wr).alloc (Nat.le_refl _) (.cells #[.int .i64 e] 3)).cell (p := ad.add j) (by rw [add_block]; exact hadb), hcell j hjl]
      exact hj
    · intro u hu
      unfold lits at hu
      obtain ⟨k, _, rfl⟩ := List.mem_map.1 hu
      rfl
    · unfold maxLen; omega
    · omega
    · simp
    · intro v' w' h1 h2 _
      have hB : Below wr.heap.size wr w' := by
        refine ((Below.refl _ _).alloc (Nat.le_refl _) _).grown h2 (by simp) fun k hk => ?_
        simp [Value.ownBlock] at hk
        omega
      refine h v' w' ⟨⟨by omega, ?_⟩, fun hc => absurd hc (by omega)⟩ hB
      have h3 : w'.ownsRow wr.heap.size 3 1 v' (digs (n * 65536 + e)).length (lits (digs (n * 65536 + e))) := by
        rw [digs_cons he h0 hen, List.length_cons, Nat.add_comm]
        exact h1
      obtain ⟨A, c2, e1, _, _, hL2⟩ := lies_own h3
      exact ⟨A, c2, e1, hL2⟩
  · obtain rfl : n = 0 := by have := hb.1; omega
    obtain rfl := hnil rfl
    refine wpList_append_own_none hgd s x 36 ho wr.heap.size 3 i0 1 Try.underlying36 hi _ 1 (lits [e]) hs hown hx ?_
    refine h _ _ ⟨?_, fun hc => absurd hc (by omega)⟩ ((Below.refl _ _).alloc (Nat.le_refl _) _)
    rw [show (0 : Int) * 65536 + e = e by omega]
    exact is_small wr e (by omega)
theorem slice_digit (r : Int) (hr : 0 ≤ r ∧ r ≤ 9) (W : World) : (Instr.slice 9 (.string ⟨#[48, 49, 50, 51, 52, 53, 54, 55, 56, 57]⟩) (some (.int .i64 r)) (some (.int .i64 (r + 1))) none).run Try.prog W = .ok (.string ⟨#[UInt8.ofNat (48 + r.toNat)]⟩) W := by
  have h : r = 0 ∨ r = 1 ∨ r = 2 ∨ r = 3 ∨ r = 4 ∨ r = 5 ∨ r = 6 ∨ r = 7 ∨ r = 8 ∨ r = 9 := by omega
  rcases h with rfl | rfl | rfl | rfl | rfl | rfl | rfl | rfl | rfl | rfl <;> rfl
theorem rets {a b : List UInt8} (h : a = b) : Ending.returned (.string ⟨a.toArray⟩) = .returned (.string ⟨b.toArray⟩) := by rw [h]
theorem IsBig.len {w : World} {n : Int} {v : Value} (h : IsBig w n v) : ∃ A c, v = .slice A (digs n).length c := by
  obtain ⟨_, A, c, e, _⟩ := h
  exact ⟨A, c, e⟩
set_option maxHeartbeats 4000000 in
theorem ref_text (h l : Int) (hh : U64 h) (hl : U64 l) (w : World) :
    Calls Try.prog 28 #[.agg #[.int .u64 h, .int .u64 l]] w fun e w' => e = .returned (.string ⟨(txt (wv h l).toNat).toArray⟩) ∧ Below w.heap.size w w' := by
  have HN : Hid (0 ≤ wv h l ∧ wv h l < 1000000000000000000000000000000000000000) := by show _ ∧ _; unfold wv U64 at *; omega
  have HP : Hid (wv h l < pw 40) := by
    have h3 := pw_mono (show 9 ≤ 40 by omega)
    have h4 : pw 9 = 22300745198530623141535718272648361505980416 := by unfold pw; rfl
    have := HN.out; show _ < _; omega
  have KB := Lib.hid (fun W => big_wide h l hh hl W)
  have J0 := Lib.hid ((Keeps.start w).alloc #[.int .u64 h, .int .u64 l] 24)
  generalize wv h l = N at *
  go_enter Try.func28, Try.ntmps28
  go_wp2_with fail
  refine (KB.out _).mono ?_
  rintro e w1 hp
  obtain ⟨v, rfl, hv, b1⟩ := hp
  have J1 := Lib.hid (J0.out.below b1).2
  have V1 := Lib.hid hv
  have I1 : Hid (TextInv N N []) := ⟨HN.out.1, HP.out, fun h => ⟨h, rfl⟩, fun h => by rw [if_neg (by omega), List.append_nil]⟩
  clear hv b1
  go_wp2
  go_loopw [3, 4] (fun bv sv wr => ∃ (V : Int) (suf : List UInt8) (b : ByteArray), Hid (TextInv N V suf) ∧ Hid (IsBig wr V bv) ∧ sv = .string b ∧ Hid (b = ⟨suf.toArray⟩) ∧ Hid (Below w.heap.size w wr ∧ w.heap.size ≤ wr.heap.size)) (fun _ sv _ => 40 - strLen sv)
  case atStart => exact ⟨N, [], _, I1, V1, rfl, rfl, J1⟩
  case round =>
    obtain ⟨V, suf, b, HI, HB, rfl, Hb, HJ⟩ := hrel
    obtain ⟨A, cc, rfl⟩ := HB.out.len
    have hV0 := HB.out.1
    rcases Int.lt_or_le 0 V with hp | hp
    · have hlen : 0 < (digs V).length := by rw [digs_s hp]; simp
      have h40 := digs_len V 40 HI.out.2.1
      have hL : Hid (Lies wr wr.heap.size A (digs V)) := by
        obtain ⟨_, A2, c2, e2, hL⟩ := HB.out
        injection e2 with e3 e4 e5
        subst e3
        exact hL
      have DM := Lib.hid (dig_digs V)
      have HV := Lib.hid (val_digs V hV0)
      generalize hNl : (digs V).length = m at *
      have HM := Lib.hid hNl
      clear hNl
      obtain ⟨wo, rfl⟩ : ∃ wo : World, wo = wr := ⟨_, rfl⟩
      go_wp2
      go_loopw [5, 6, 7] (fun nv rv iv wr => ∃ (k : Nat) (r i : Int), k ≤ m ∧ rv = .int .i64 r ∧ (0 ≤ r ∧ r ≤ 9) ∧ iv = .int .i64 i ∧ Hid (i = k - 1) ∧ Hid (r = val ((digs V).drop k) % 10) ∧ Hid (NextIs wr (val ((digs V).drop k) / 10) nv) ∧ Hid (Below wo.heap.size wo wr)) (fun _ _ iv _ => (intOf iv + 1).toNat)
      case atStart =>
        have h0 : val ((digs V).drop m) = 0 := val_drop_ge _ m (by have := HM.out; omega)
        refine ⟨m, 0, _, Nat.le_refl _, rfl, by omega, rfl, rfl, ?_, ?_, Below.refl _ _⟩
        · show _ = _
          rw [h0]; rfl
        · rw [h0]; exact ⟨is_nil _, fun _ => rfl⟩
      case round =>
        obtain ⟨k, r, i, hk, rfl, hr, rfl, Hi, HR, HX, HW⟩ := hrel
        rcases Nat.eq_zero_or_pos k with rfl | hk0
        · obtain rfl : i = -1 := Hi.out
          have hsl := slice_digit r hr wr
          have HC : Hid (((UInt8.ofNat (48 + r.toNat)).toNat : Int) = 48 + V % 10) := by
            have h1 := HR.out
            rw [List.drop_zero, HV.out] at h1
            show _ = _
            rw [UInt8.toNat_ofNat_of_lt' (by show _ < 256; omega), ← h1]; omega
          have HS := Lib.hid (textInv_step HI.out hp _ HC.out)
          have HLN := Lib.hid (textInv_len HI.out hp HN.out)
          have hbs : b.size < 39 := by
            have := HLN.out
            rw [Hb.out]
            simpa [ByteArray.size] using this
          have hx1 := HX.out.1
          rw [List.drop_zero, HV.out] at hx1
          have HX1 := Lib.hid hx1
          clear hx1
          generalize UInt8.ofNat (48 + r.toNat) = c at *
          go_wp2
          refine ⟨⟨V / 10, c :: suf, _, HS, HX1, rfl, ?_, ⟨HJ.out.1.trans (HW.out.mono HJ.out.2), Nat.le_trans HJ.out.2 HW.out.size⟩⟩, ?_⟩
          · show _ = _
            rw [Hb.out]
            exact ByteArray.ext (by simp)
          · have e : 40 - ((⟨#[c]⟩ : ByteArray) ++ b).size < 40 - b.size := by
              rw [ByteArray.size_append]
              show 40 - (1 + b.size) < 40 - b.size
              omega
            exact e
        · obtain ⟨j, rfl⟩ : ∃ j, k = j + 1 := ⟨k - 1, by omega⟩
          obtain rfl : i = (j : Int) := by have := Hi.out; omega
          obtain ⟨ad, rfl, hadb, hcell⟩ := lies_at (hL.out.below HW.out) (k := j) (by have := HM.out; omega)
          have hd := dig_getD DM.out j
          have HVJ : Hid (val ((digs V).drop j) = (digs V).getD j 0 + 65536 * val ((digs V).drop (j + 1))) := val_drop _ j (by have := HM.out; omega)
          have hn0 := val_nonneg (dig_drop DM.out (j + 1))
          have HLE : Hid (val ((digs V).drop (j + 1)) < pw 40) := by
            have h1 := val_drop_le DM.out (j + 1)
            have h2 := HI.out.2.1
            rw [HV.out] at h1
            show _ < _; omega
          generalize (digs V).getD j 0 = d at *
          generalize val ((digs V).drop (j + 1)) = U at *
          have HQ : Hid (U / 10 < pw 40) := by have := HLE.out; show _ < _; omega
          have hE : 0 ≤ (r * 65536 + d) / 10 ∧ (r * 65536 + d) / 10 < 65536 := by omega
          have HD1 : Hid (val ((digs V).drop j) / 10 = U / 10 * 65536 + (r * 65536 + d) / 10) := by
            have h1 := HVJ.out; have h2 := HR.out
            show _ = _
            omega
          have HD2 : Hid ((r * 65536 + d) % 10 = val ((digs V).drop j) % 10) := by
            have h1 := HVJ.out; have h2 := HR.out
            show _ = _
            omega
          rcases Int.lt_or_le 0 (U / 10) with hq | hq
          · obtain ⟨A2, c2, rfl⟩ := HX.out.1.len
            have hl2 : 0 < (digs (U / 10)).length := by rw [digs_s hq]; simp
            have h41 := digs_len _ 40 HQ.out
            generalize hNl : (digs (U / 10)).length = m2 at *
            clear hNl
            have HU := Lib.hid hn0
            by_cases he0 : 0 < (r * 65536 + d) / 10
            all_goals
              have hen : 0 < (r * 65536 + d) / 10 ∨ 0 < U / 10 := .inr hq
              go_wp2_with (at_builtin; refine app_big rfl (.tmp 42) (.tmp 43) rfl ((r * 65536 + d) / 10) (U / 10) _ HX.out hE hen HQ.out rfl rfl ?_; intro v' w1 hn' hb1)
              exact ⟨⟨j, _, _, by omega, rfl, by omega, rfl, rfl, HD2, (by rw [← HD1.out] at hn'; exact hn'), HW.out.trans (hb1.mono HW.out.size)⟩, by simp [intOf]⟩
          · obtain hq0 : U / 10 = 0 := by omega
            rw [hq0] at HX HD1
            obtain rfl := HX.out.2 rfl
            have HU := Lib.hid hn0
            have HH := Lib.hid hq0
            clear hq hq0
            by_cases he0 : 0 < (r * 65536 + d) / 10
            · have hen : 0 < (r * 65536 + d) / 10 ∨ (0 : Int) < 0 := .inl he0
              have hp40 : Hid ((0 : Int) < pw 40) := pw_pos 40
              go_wp2_with (at_builtin; refine app_big rfl (.tmp 42) (.tmp 43) rfl ((r * 65536 + d) / 10) 0 _ HX.out hE hen hp40.out rfl rfl ?_; intro v' w1 hn' hb1)
              exact ⟨⟨j, _, _, by omega, rfl, by omega, rfl, rfl, HD2, (by rw [← HD1.out] at hn'; exact hn'), HW.out.trans (hb1.mono HW.out.size)⟩, by simp [intOf]⟩
            · have he1 : (r * 65536 + d) / 10 = 0 := by omega
              rw [he1] at HD1
              have HZ := Lib.hid he1
              clear he1
              go_wp2
              exact ⟨⟨j, _, _, by omega, rfl, by omega, rfl, rfl, HD2, (by rw [HD1.out]; exact HX), HW⟩, by simp [intOf]⟩
    · obtain rfl : V = 0 := by omega
      have e0 : digs 0 = [] := digs_0 (by omega)
      rw [e0]
      by_cases hs : suf = []
      · have HE : Hid (txt N.toNat = [48]) := by
          have := textInv_end HI.out HN.out.1
          rw [if_pos hs] at this
          exact this
        have hs1 : b.toList = [] := by rw [Hb.out, ByteArray.toList_eq, hs]
        have hs2 : b.toList.isEmpty = true := by rw [hs1]; rfl
        clear hs
        go_wp2
        go_ret
        exact ⟨rets (a := [48]) HE.out.symm, HJ.out.1⟩
      · have HE : Hid (Ending.returned (.string b) = .returned (.string ⟨(txt N.toNat).toArray⟩)) := by
          have := textInv_end HI.out HN.out.1
          rw [if_neg hs] at this
          show _ = _
          rw [this, Hb.out]
        have hs1 : ¬ b.toList = [] := by rw [Hb.out, ByteArray.toList_eq]; simpa using hs
        have hs2 : b.toList.isEmpty = false := by
          cases h : b.toList with
          | nil => exact absurd h hs1
          | cons a b => rfl
        clear hs
        go_wp2
        go_ret
        exact ⟨HE.out, HJ.out.1⟩
end Go.Proofs.Ytbnpbflndnjmcaa
