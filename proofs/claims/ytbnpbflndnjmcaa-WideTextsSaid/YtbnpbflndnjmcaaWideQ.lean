/- The contract of copseref02.Parse. -/
import Derived.Test.YtbnpbflndnjmcaaWideJ
import Derived.Test.YtbnpbflndnjmcaaWideF
import Derived.Test.YtbnpbflndnjmcaaBigC
import Derived.Outline
namespace Go.Proofs.Ytbnpbflndnjmcaa
open Go.RowKit

theorem fits_is {n : Int} (h0 : 0 ≤ n) {w w' : World} {e : Ending} (h : FitsW n w e w') : e = .returned (wfV n) ∧ Below w.heap.size w w' := by
  by_cases h1 : n < 340282366920938463463374607431768211456
  · obtain ⟨he, hb⟩ := wfits_of h1 h
    exact ⟨he.trans (wfV_in ⟨h0, h1⟩ rfl rfl), hb⟩
  · obtain ⟨he, hb⟩ := wfits_over (by omega) h
    exact ⟨he.trans (wfV_out (by omega)), hb⟩
theorem big_fits {n : Int} {v : Value} {w : World} (h : IsBig w n v) (l : n < pw 40) : Calls Try.prog 32 #[v] w fun e w' => e = .returned (wfV n) ∧ Below w.heap.size w w' := by
  obtain ⟨h0, A, c, rfl, LA⟩ := h
  exact (ref_wfits n h0 A c w LA (by have := digs_len n 40 l; omega)).mono fun _ _ g => fits_is h0 g
theorem is_small (w : World) (d : Int) (h : 0 < d ∧ d < 65536) : IsBig (w.alloc (.cells #[.int .i64 d] 3)) d (.slice (some ⟨w.heap.size, 0, none⟩) 1 1) := by
  have e : digs d = [d] := by
    have hv : val [d] = d := by simp [val]
    have := digs_val (l := [d]) (by intro x hx; simp only [List.mem_cons, List.not_mem_nil, or_false] at hx; omega) (.inr (by simp; omega))
    rw [hv] at this; exact this
  refine ⟨by omega, some ⟨w.heap.size, 0, none⟩, 1, by rw [e]; rfl, ?_⟩
  rw [e]
  intro _
  refine ⟨⟨w.heap.size, 0, none⟩, rfl, by rw [alloc_size']; exact Nat.lt_succ_self _, fun j hj => ?_⟩
  obtain rfl : j = 0 := by simp at hj; omega
  exact (Box.new w _ _).cell 0
theorem is_nil (w : World) : IsBig w 0 (.slice none 0 0) := by
  have e : digs 0 = [] := digs_0 (by omega)
  refine ⟨Int.le_refl 0, none, 0, by rw [e]; rfl, ?_⟩
  rw [e]; exact Lies.nil
theorem dec_lt (s : ByteArray) (h : s.data.toList.all digB = true) (k : Nat) (hk : k ≤ s.size) : dec (s.data.toList.take k) < 10 ^ k := by
  induction k with
  | zero => rw [List.take_zero]; decide
  | succ k ih =>
    have := ih (by omega)
    have hd := digB_at h k (by omega)
    rw [dec_take s k (by omega), Int.pow_succ]; omega
theorem ten_mono {a b : Nat} (h : a ≤ b) : (10 : Int) ^ a ≤ 10 ^ b := by
  obtain ⟨n, rfl⟩ := Nat.exists_eq_add_of_le h
  induction n with
  | zero => exact Int.le_refl _
  | succ n ih =>
    have := ih (by omega)
    have h1 : (0 : Int) < 10 ^ (a + n) := Int.pow_pos (by omega)
    rw [show a + (n + 1) = a + n + 1 by omega, Int.pow_succ]; omega
theorem dec_pw (s : ByteArray) (h : s.data.toList.all digB = true) (hs : s.size ≤ 39) (k : Nat) (hk : k ≤ s.size) : dec (s.data.toList.take k) < pw 40 := by
  have h1 := dec_lt s h k hk
  have h2 := ten_mono (show k ≤ 39 by omega)
  have h3 := pw_mono (show 9 ≤ 40 by omega)
  have h4 : pw 9 = 22300745198530623141535718272648361505980416 := by unfold pw; rfl
  have h5 : (10 : Int) ^ 39 = 1000000000000000000000000000000000000000 := by rfl
  omega

set_option maxHeartbeats 4000000 in
theorem ref_parse (s : ByteArray) (hs : s.size ≤ maxLen) (w : World) :
    Calls Try.prog 27 #[.string s] w fun e w' => e = .returned (psV s.data.toList) ∧ Below w.heap.size w w' := by
  have HL : Hid (s.data.toList.length = s.size) := by show _ = _; simp
  unfold maxLen at hs
  have hX := Box.new w #[.int .u64 0, .int .u64 0] 24
  have hW := (Below.refl w.heap.size w).alloc (Nat.le_refl _) (.cells #[.int .u64 0, .int .u64 0] 24)
  obtain ⟨x0, x1, x2, x3⟩ := hX.two
  have HX := Lib.hid hX
  have HW := Lib.hid hW
  clear hX hW
  by_cases h0 : s.size = 0
  · have e0 : s.toList = [] := by
      rw [← List.length_eq_zero_iff, ByteArray.toList_eq]; simpa using h0
    have e1 : s.toList.isEmpty = true := by rw [e0]; rfl
    have HR : Hid (Ending.returned (.tuple #[.agg #[.int .u64 0, .int .u64 0], .int .i64 20]) = .returned (psV s.data.toList)) := by
      refine psV_no ?_
      unfold isTextB
      rw [← ByteArray.toList_eq, e1]; rfl
    clear h0
    go_enter Try.func27, Try.ntmps27
    go_wp2
    refine bodyPost_ret (v := .tuple #[.agg #[.int .u64 0, .int .u64 0], .int .i64 20]) ?_ rfl ⟨HR.out, HW.out⟩
    simp [results, Try.results27, go_sem, x0, x1]
  · have e0 : ¬ s.toList = [] := by
      rw [← List.length_eq_zero_iff, ByteArray.toList_eq]; simpa using h0
    have e1 : s.toList.isEmpty = false := by
      cases h : s.toList with
      | nil => exact absurd h e0
      | cons a b => rfl
    by_cases hz : ∃ h1 : 1 < s.size, (s[0].toNat : Int) = 48
    · obtain ⟨h1, h2⟩ := hz
      have HR := Lib.hid (psV_no (isText_zero h1 h2))
      have h3 : ((s[0].toNat : Int) == 48) = true := by simpa using h2
      clear h2
      go_enter Try.func27, Try.ntmps27
      go_wp2
      refine bodyPost_ret (v := .tuple #[.agg #[.int .u64 0, .int .u64 0], .int .i64 20]) ?_ rfl ⟨HR.out, HW.out⟩
      simp [results, Try.results27, go_sem, x0, x1]
    · have hz' : 1 < s.size → ∀ h : 0 < s.size, (s[0].toNat : Int) ≠ 48 := fun h1 h hc => hz ⟨h1, hc⟩
      have HG := Lib.hid (isText_good h0 hz')
      by_cases h1 : 1 < s.size
      all_goals
        have h3 : ∀ h : 0 < s.size, ((s[0].toNat : Int) == 48) = false ∨ ¬ 1 < s.size := fun h => by
          by_cases hh : 1 < s.size
          · left; simpa using hz' hh h
          · right; exact hh
        have h4 := h3 (by omega)
        simp only [h1, not_true_eq_false, not_false_eq_true, or_false, or_true] at h4
        clear h3 hz hz'
        go_enter Try.func27, Try.ntmps27
        go_wp2
        go_loop [4] (fun i => ∃ k : Nat, k ≤ s.size ∧ i = .int .i64 k ∧ Hid ((s.data.toList.take k).all digB = true)) (fun i => s.size - (intOf i).toNat)
        case atStart => exact ⟨0, Nat.zero_le _, rfl, rfl⟩
        case round =>
          obtain ⟨k, hk, rfl, hd⟩ := hrel
          by_cases hlt : k < s.size
          · by_cases hdig : 48 ≤ (s[k].toNat : Int) ∧ (s[k].toNat : Int) ≤ 57
            · have HD := Lib.hid (digs_snoc s k hlt hd.out hdig)
              obtain ⟨hd1, hd2⟩ := hdig
              go_wp2
              go_round
              case rel => exact ⟨k + 1, by omega, by go_num, HD⟩
              case measure => simp [intOf]; omega
            · have HR := Lib.hid (psV_no (isText_bad k hlt hdig))
              by_cases h48 : (s[k].toNat : Int) < 48
              · clear hdig
                go_wp2
                refine bodyPost_ret (v := .tuple #[.agg #[.int .u64 0, .int .u64 0], .int .i64 20]) ?_ rfl ⟨HR.out, HW.out⟩
                simp [results, Try.results27, go_sem, x0, x1]
              · have h57 : 57 < (s[k].toNat : Int) := by omega
                clear hdig
                go_wp2
                refine bodyPost_ret (v := .tuple #[.agg #[.int .u64 0, .int .u64 0], .int .i64 20]) ?_ rfl ⟨HR.out, HW.out⟩
                simp [results, Try.results27, go_sem, x0, x1]
          · obtain rfl : k = s.size := by omega
            have HT := Lib.hid (HG.out hd.out)
            by_cases h39 : 39 < s.size
            · have HR := Lib.hid (psV_long HT.out (by rw [HL.out]; exact h39))
              first
                | (exfalso; omega)
                | (go_wp2
                   refine bodyPost_ret (v := .tuple #[.agg #[.int .u64 0, .int .u64 0], .int .i64 10]) ?_ rfl ⟨HR.out, HW.out⟩
                   simp [results, Try.results27, go_sem, x0, x1])
            · have HV := Lib.hid (psV_in HT.out (by rw [HL.out]; omega))
              have HA := Lib.hid (isText_all HT.out)
              clear hd
              have HP := Lib.hid (dec_pw s HA.out (by omega))
              have HF : Hid (dec (s.data.toList.take s.size) = dec s.data.toList) := by show _ = _; rw [← HL.out, List.take_length]
              have JW : Hid (Keeps w.heap.size w [(w.heap.size, #[.int .u64 0, .int .u64 0], 24)] (w.alloc (.cells #[.int .u64 0, .int .u64 0] 24))) := (Keeps.start w).alloc _ _
              go_wp2
              go_loopw [5, 6] (fun bv iv wr => ∃ k : Nat, k ≤ s.size ∧ iv = .int .i64 k ∧ Hid (IsBig wr (dec (s.data.toList.take k)) bv) ∧ Hid (Keeps w.heap.size w [(w.heap.size, #[.int .u64 0, .int .u64 0], 24)] wr)) (fun _ iv _ => s.size - (intOf iv).toNat)
              case atStart => exact ⟨0, Nat.zero_le _, rfl, is_nil _, JW⟩
              case round =>
                rename_i bv _ wr _
                obtain ⟨k, hk, rfl, HB, HJ⟩ := hrel
                by_cases hlt : k < s.size
                · have hdig := digB_at HA.out k hlt
                  have e2 : IntKind.u8.wrap ((s[k].toNat : Int) - 48) = (s[k].toNat : Int) - 48 := by unfold IntKind.wrap; simp [IntKind.signed, IntKind.bits]; omega
                  have e3 : IntKind.u64.wrap ((s[k].toNat : Int) - 48) = (s[k].toNat : Int) - 48 := by unfold IntKind.wrap; simp [IntKind.signed, IntKind.bits]; omega
                  have KO := Lib.hid (fun W => big_of ((s[k].toNat : Int) - 48) (by unfold U64; omega) W)
                  have H1 := Lib.hid (HP.out k (by omega))
                  have H2 := Lib.hid (HP.out (k + 1) (by omega))
                  have HE := Lib.hid (dec_take s k hlt)
                  have P10 : Hid ((10 : Int) < pw 40) := by
                    have h3 := pw_mono (show 1 ≤ 40 by omega)
                    have h4 : pw 1 = 65536 := by unfold pw; rfl
                    show _ < _
                    omega
                  have PD : Hid ((s[k].toNat : Int) - 48 < pw 40) := by have := P10.out; show _ < _; omega
                  have PM : Hid (dec (s.data.toList.take k) * 10 < pw 40) := by have := H2.out; rw [HE.out] at this; show _ < _; omega
                  have T10 := Lib.hid (is_small wr 10 (by omega)).drew
                  have B0 := Lib.hid (HB.out.below ((Below.refl _ _).alloc (Nat.le_refl _) (.cells #[.int .i64 10] 3))).drew
                  have J0 := Lib.hid (HJ.out.below ((Below.refl _ _).alloc (Nat.le_refl _) (.cells #[.int .i64 10] 3))).drew
                  have hd0 : (0 : Int) ≤ k := by omega
                  clear hdig
                  go_wp2
                  go_region_with (first
                    | (go_at_call 20; ((with_reducible refine (big_times B0.out T10.out H1.out P10.out).mono ?_); rintro e w1 hp; obtain ⟨t, rfl, ht, b1⟩ := hp; have T := Lib.hid ht; have J1 := Lib.hid (J0.out.below b1); clear ht b1))
                    | (go_at_call 22; ((with_reducible refine (KO.out _).mono ?_); rintro e w2 hp; obtain ⟨u, rfl, hu, b2⟩ := hp; have U := Lib.hid hu; have T2 := Lib.hid (T.out.below b2); have J2 := Lib.hid (J1.out.below b2); clear hu b2))
                    | (go_at_call 19; ((with_reducible refine (big_plus T2.out U.out PM.out PD.out).mono ?_); rintro e w3 hp; obtain ⟨v, rfl, hv, b3⟩ := hp; rw [← HE.out] at hv; have V := Lib.hid hv; have J3 := Lib.hid (J2.out.below b3); clear hv b3)))
                  all_goals
                    go_wp2
                    go_roundw
                    case rel => exact ⟨k + 1, by omega, by go_num, V, J3⟩
                    case measure => simp [intOf]; omega
                · obtain rfl : k = s.size := by omega
                  have KF := Lib.hid (big_fits HB.out (HP.out _ (by omega)))
                  rw [HF.out, ← HV.out] at KF
                  go_wp2_with fail
                  refine KF.out.mono ?_
                  rintro e w1 ⟨rfl, b1⟩
                  have J1 := Lib.hid (HJ.out.below b1)
                  obtain ⟨y0, y1, y2, y3⟩ := J1.out.head.two
                  clear b1
                  go_wp2
                  have Z := J1.out.head.set2 (.int .u64 (psH s.data.toList)) (.int .u64 (psL s.data.toList))
                  obtain ⟨k0, k1, _, _⟩ := Z.two
                  refine bodyPost_ret (v := psV s.data.toList) ?_ rfl ⟨rfl, ?_⟩
                  · simp [results, Try.results27, go_sem, k0, k1]
                  · exact (J1.out.2.1.setCell (p := ⟨w.heap.size, 0, none⟩) (by simp) _).setCell (p := ⟨w.heap.size, 1, none⟩) (by simp) _
end Go.Proofs.Ytbnpbflndnjmcaa
