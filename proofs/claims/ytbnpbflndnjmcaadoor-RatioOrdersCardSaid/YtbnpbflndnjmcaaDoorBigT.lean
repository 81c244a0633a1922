/- The contract of copseref01.Times. -/
import Derived.Test.YtbnpbflndnjmcaaDoorBigQ
namespace Go.Proofs.YtbnpbflndnjmcaaDoor
open Go.RowKit

theorem val_zeros (n : Nat) : val (List.replicate n 0) = 0 := by
  induction n with
  | zero => rfl
  | succ n ih => rw [List.replicate_succ, val, ih]; rfl
theorem dig_zeros (n : Nat) : Dig (List.replicate n 0) := fun d hd => by
  rw [List.eq_of_mem_replicate hd]; omega
theorem made_zeros (n : Nat) : (madeCells (Value.int .i64 0).cells (n * 1)).toList = lits (List.replicate n 0) := by
  rw [Nat.mul_one]
  refine (toList_madeCells_one _ n).trans ?_
  simp [lits]
/-- a new row of noughts -/
theorem make_zeros {B : Nat} {wr : World} {ops : Array Oper} {rest : List Oper} {o : Oper} {a : Act} {Q : Exit → Act → World → Prop} (hgd : o.guard = none) (l c : Operand)
    (ho : o.op = Op.makeSlice 52 l c) (n : Nat) (hl : a.eval l = .int .i64 n) (hc : a.eval c = .int .i64 n) (hn : n ≤ 100000000) (hB : B ≤ wr.heap.size)
    (h : ∀ v' w', w'.ownsRow B 3 1 v' (List.replicate n (0 : Int)).length (lits (List.replicate n 0)) → Below B wr w' → wpList Tryd.prog ops Q rest (a.put o.dst v') w') :
    wpList Tryd.prog ops Q (o :: rest) a wr := by
  obtain ⟨i0, hi, hz0, hz1, hz2⟩ := info_parts info_int
  refine wpList_make_full wr hgd l c 52 ho B 3 i0 (.int .i64 0) 1 Tryd.underlying52 hi hz0 hz1 .i64 .i64 n n n hl hc rfl rfl (by rw [hz2]; omega) (by unfold maxLen; omega) hB ?_
  intro w' h1 h2
  refine h _ w' ?_ ?_
  · rw [List.length_replicate, ← made_zeros]; exact h1
  · exact (Below.refl _ _).grown h2 hB (fun k hk => by cases hk)

theorem times_step (i k : Nat) (l : List Int) (a y c T : Int) (hl : l.length = i + k) (h : val l + pw (i + k) * c = pw i * (a * T)) :
    val (l ++ [(a * y + c) % 65536]) + pw (i + (k + 1)) * ((a * y + c) / 65536) = pw i * (a * (T + pw k * y)) := by
  rw [val_snoc, hl, show i + (k + 1) = (i + k) + 1 from rfl, pw_s]
  have e : a * y + c = (a * y + c) / 65536 * 65536 + (a * y + c) % 65536 := by omega
  have ep : pw (i + k) = pw i * pw k := by unfold pw; rw [Int.pow_add]
  generalize (a * y + c) / 65536 = q at *
  generalize (a * y + c) % 65536 = r at *
  rw [ep] at h ⊢
  grind
theorem prod_bd16 (x y : Int) (hx : 0 ≤ x ∧ x < 65536) (hy : 0 ≤ y ∧ y < 65536) : 0 ≤ x * y ∧ x * y ≤ 4294836225 := by
  refine ⟨Int.mul_nonneg hx.1 hy.1, ?_⟩
  have := Int.mul_le_mul (by omega : x ≤ 65535) (by omega : y ≤ 65535) hy.1 (by omega : (0 : Int) ≤ 65535)
  simpa using this

def TrimsO (l : List Int) (w : World) (e : Ending) (w' : World) : Prop :=
  ∃ A c, e = .returned (.slice A (digs (val l)).length c) ∧ (digs (val l)).length ≤ c ∧ c ≤ maxLen ∧ Lies w w.heap.size A (digs (val l)) ∧ w = w'
/-- trim on a row of the call's own -/
theorem trim_own {B : Nat} {v : Value} {l : List Int} {w : World} (hown : w.ownsRow B 3 1 v l.length (lits l)) (hd : Dig l) (hl : l.length ≤ 1000000000) :
    Calls Tryd.prog 73 #[v] w (TrimsO l w) := by
  obtain ⟨A, c, rfl, hc, hm, hL⟩ := lies_own hown
  exact (ref_trim A l c w.heap.size w hL hd hl hc).mono fun e w' ⟨A3, he, hc3, hL3, hw⟩ => ⟨A3, c, he, hc3, hm, hL3, hw⟩
theorem mul_lt_pw {a b : Int} {i m : Nat} (ha : 0 ≤ a) (ha' : a < pw i) (hb' : b < pw m) : a * b < pw (i + m) := by
  have e : pw (i + m) = pw i * pw m := by unfold pw; rw [Int.pow_add]
  rw [e]
  have h1 : a * b ≤ a * pw m := Int.mul_le_mul_of_nonneg_left (by omega) ha
  have h2 : a * pw m < pw i * pw m := Int.mul_lt_mul_of_pos_right ha' (pw_pos m)
  omega
set_option maxHeartbeats 1000000 in
theorem ref_times (A A2 : Option Addr) (la lb : List Int) (ca cb : Nat) (w : World) (hA : Lies w w.heap.size A la) (hB : Lies w w.heap.size A2 lb) (da : Dig la) (db : Dig lb) (hl : la.length + lb.length ≤ 100000) :
    Calls Tryd.prog 59 #[.slice A la.length ca, .slice A2 lb.length cb] w (Gives (val la * val lb) w) := by
  have DA := Lib.hid da
  have DB := Lib.hid db
  clear da db
  generalize hN : la.length = N at *
  have HN := Lib.hid hN
  clear hN
  generalize hM : lb.length = M at *
  have HM := Lib.hid hM
  clear hM
  have HA := Lib.hid hA
  have HB := Lib.hid hB
  clear hA hB
  go_enter Tryd.func59, Tryd.ntmps59
  go_wp2
  go_loopw [5, 6] (fun v iv wr => ∃ (i : Nat) (A' : Option Addr) (c' : Nat), i ≤ N ∧ iv = .int .i64 i ∧ v = .slice A' (digs (val (la.take i) * val lb)).length c' ∧ (digs (val (la.take i) * val lb)).length ≤ c' ∧ c' ≤ maxLen ∧ Hid (Lies wr wr.heap.size A' (digs (val (la.take i) * val lb))) ∧ Below w.heap.size w wr)
    (fun _ iv _ => N - (intOf iv).toNat)
  case atStart => exact ⟨0, none, 0, by omega, rfl, by simp [val, digs_0], by simp [val, digs_0], by unfold maxLen; omega, (by show Lies _ _ _ _; simp only [List.take_zero, val, Int.zero_mul]; rw [digs_0 (by omega)]; exact Lies.nil), Below.refl _ _⟩
  case round =>
    obtain ⟨i, A', c', hi, rfl, rfl, hc', hm', HL, hb⟩ := hrel
    obtain ⟨wo, rfl⟩ : ∃ wo : World, wo = wr := ⟨_, rfl⟩
    have hbs := hb.size
    generalize hT : digs (val (la.take i) * val lb) = dT at *
    have HT := Lib.hid hT
    clear hT
    by_cases hgo : i < N
    · have HLA := Lib.hid (HA.out.below hb)
      have HLB := Lib.hid (HB.out.below hb)
      have hx := dig_getD DA.out i
      obtain ⟨ad, rfl, hadb, hcell⟩ := lies_at HLA.out (k := i) (by have := HN.out; omega)
      have HTK := Lib.hid (val_take la i (by have := HN.out; omega))
      generalize la.getD i 0 = x at *
      go_wp2_with (at_make; refine make_zeros (B := wo.heap.size) rfl (.tmp 17) (.tmp 17) rfl i rfl rfl (by omega) (Nat.le_refl _) ?_; intro v0 w0 hown0 hb0)
      go_loopw [7, 8, 9] (fun v cv kv wr => ∃ (k : Nat) (l : List Int) (c : Int), k ≤ M ∧ kv = .int .i64 k ∧ cv = .int .i64 c ∧ 0 ≤ c ∧ c < 65536 ∧ Hid (l.length = i + k) ∧ Dig l ∧ Hid (val l + pw (i + k) * c = pw i * (x * val (lb.take k))) ∧ wr.ownsRow wo.heap.size 3 1 v l.length (lits l) ∧ Below wo.heap.size wo wr)
        (fun _ _ kv _ => M - (intOf kv).toNat)
      case atStart => exact ⟨0, _, 0, by omega, rfl, rfl, by omega, by omega, (by show _ = _; simp), dig_zeros i, (by show _ = _; rw [val_zeros]; simp [val]), hown0, hb0⟩
      case round =>
        obtain ⟨k, l, c, hk, rfl, rfl, hc0, hc1, HLen, HD, HV, hown, hbi⟩ := hrel
        have hbis := hbi.size
        have hlk : l.length ≤ 100001 := by have := HLen.out; omega
        by_cases hgo2 : k < M
        · have hy := dig_getD DB.out k
          obtain ⟨ad2, rfl, hadb2, hcell2⟩ := lies_at (HLB.out.below (hbi.mono hbs)) (k := k) (by have := HM.out; omega)
          have hcell1 : wr.cell? (ad.add i) = some (.int .i64 x) := (hbi.cell (by rw [add_block]; omega)).trans hcell
          have HTK2 := Lib.hid (val_take lb k (by have := HM.out; omega))
          generalize lb.getD k 0 = y at *
          have hxy := prod_bd16 x y hx hy
          have HS := Lib.hid (times_step i k l x y c _ HLen.out HV.out)
          rw [← HTK2.out] at HS
          have hq0 : 0 ≤ (x * y + c) / 65536 := by omega
          have hq1 : (x * y + c) / 65536 < 65536 := by omega
          have hr0 : 0 ≤ (x * y + c) % 65536 := by omega
          have hr1 : (x * y + c) % 65536 < 65536 := by omega
          have HD' := dig_snoc HD hr0 hr1
          have HLen' : Hid ((l ++ [(x * y + c) % 65536]).length = i + (k + 1)) := by show _ = _; rw [List.length_append, HLen.out]; rfl
          clear HTK2 HTK
          go_wp2_with fail
          go_quiet (fail)
          have hown2 := owns_drewN hown nq
          have hbs2 : wo.heap.size ≤ (wr.drewN nq).heap.size := hbis
          go_wp2_with (at_builtin; refine app_one (wr := wr.drewN nq) rfl (.tmp 36) (.tmp 39) rfl _ l ((x * y + c) % 65536) rfl hown2 rfl hbs2 (by omega) ?_; intro v' w1 hown' hb1)
          exact ⟨⟨k + 1, _, _, by omega, by go_num, rfl, hq0, hq1, HLen', HD', HS, hown', (below_drewN hbi nq).trans hb1⟩, (by simp [intOf]; omega)⟩
        · have HE : Hid (val (l ++ [c]) = pw i * (x * val lb)) := by
            have h := HV.out
            have hM := HM.out
            rw [List.take_of_length_le (by omega)] at h
            show _ = _
            rw [val_snoc, HLen.out]; exact h
          have HD' := dig_snoc HD hc0 hc1
          have hl2 : (l ++ [c]).length ≤ 100001 := by have := HLen.out; rw [List.length_append]; simp; omega
          have hl3 : (digs (val (l ++ [c]))).length ≤ 100001 := Nat.le_trans (digs_len _ _ (val_lt HD')) hl2
          have hva := val_nonneg (dig_take DA.out i)
          have hvb := val_nonneg DB.out
          have hdT : dT.length ≤ 100000 := by
            rw [← HT.out]
            refine Nat.le_trans (digs_len _ (i + M) ?_) (by omega)
            have h1 := val_lt (dig_take DA.out i)
            rw [List.length_take, Nat.min_eq_left (by have := HN.out; omega)] at h1
            have h2 := val_lt DB.out
            rw [HM.out] at h2
            exact mul_lt_pw hva h1 h2
          have HSUM : Hid (val dT + val (digs (val (l ++ [c]))) = val (la.take (i + 1)) * val lb) := by
            show _ = _
            rw [← HT.out, val_digs _ (Int.mul_nonneg hva hvb), val_digs _ (val_nonneg HD'), HE.out, HTK.out, Int.add_mul, Int.mul_assoc]
          have DT : Dig dT := by rw [← HT.out]; exact dig_digs _
          clear hva hvb
          go_wp2_with (at_builtin; refine app_one rfl (.tmp 43) (.tmp 45) rfl _ l c rfl hown rfl hbis (by omega) ?_; intro v' w1 hown' hb1)
          have HLD := Lib.hid ((HL.out.below (hbi.trans hb1)).mono (hbi.trans hb1).size)
          refine (trim_own hown' HD' (by omega)).mono ?_
          rintro e w' ⟨A6, c6, rfl, hc6, hm6, hL6, rfl⟩
          go_wp2_with fail
          refine (ref_plus A' A6 dT _ c' c6 _ HLD.out hL6 DT (dig_digs _) (by omega)).mono ?_
          rintro e w' ⟨A7, c7, rfl, hc7, hm7, hL7, hb7⟩
          rw [HSUM.out] at hc7 hL7 ⊢
          have hbF := ((hb.trans ((hbi.trans hb1).mono hbs))).trans (hb7.mono (by have := hb1.size; omega))
          have HL7 := Lib.hid hL7
          clear hL7 HLD hL6 hown' hown hown0
          go_wp2
          exact ⟨⟨i + 1, A7, c7, by omega, by go_num, rfl, hc7, hm7, HL7, hbF⟩, (by simp [intOf]; omega)⟩
    · have HE : Hid (val (la.take i) = val la) := by have := HN.out; show _ = _; rw [List.take_of_length_le (by omega)]
      go_wp2
      go_ret
      have hT := HT.out
      have hL := HL.out
      rw [HE.out] at hT
      rw [← hT] at hL hc' ⊢
      exact ⟨A', c', rfl, hc', hm', hL, hb⟩
end Go.Proofs.YtbnpbflndnjmcaaDoor
