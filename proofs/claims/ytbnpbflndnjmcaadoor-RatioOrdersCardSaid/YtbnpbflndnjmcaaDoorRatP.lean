/- Contracts of package ratio: readPart, read. -/
import Derived.Test.YtbnpbflndnjmcaaDoorRatC
import Derived.Test.YtbnpbflndnjmcaaDoorWideJ
namespace Go.Proofs.YtbnpbflndnjmcaaDoor
open Go.RowKit

/-- the digits of a part -/
def Good (l : List UInt8) : Prop := isTextB l = true ∧ dec l ≤ 1073741824
theorem good_dec {l : List UInt8} (h : Good l) : 0 ≤ dec l ∧ psV l = .tuple #[.agg #[.int .u64 0, .int .u64 (dec l)], .int .i64 0] := by
  obtain ⟨h1, h2⟩ := h
  have h0 : 0 ≤ dec l := by
    have := dec_txt (dec l).toNat
    rw [txt_dec h1] at this
    omega
  have hl : l.length ≤ 39 := by
    have := txt_len 9 (dec l).toNat (by show _ < 10 ^ 10; omega)
    rw [txt_dec h1] at this
    omega
  refine ⟨h0, ?_⟩
  rw [psV_in h1 hl]
  exact (Ending.returned.inj (wfV_in (n := dec l) (h := 0) (l := dec l) (by omega) (by omega) (by omega))).symm
theorem good_of {l : List UInt8} (h : psE l = 0) (h2 : wv (psH l) (psL l) ≤ 1073741824) : Good l := by
  have hT : isTextB l = true := by
    cases hc : isTextB l with
    | true => rfl
    | false => unfold psE at h; rw [hc] at h; simp at h
  have hl : l.length ≤ 39 := by
    rcases Nat.lt_or_ge 39 l.length with hc | hc
    · unfold psE at h; rw [if_pos hT, if_neg (by omega)] at h; omega
    · exact hc
  have hE : wfE (dec l) = 0 := by unfold psE at h; rw [if_pos hT, if_pos hl] at h; exact h
  have hn : 0 ≤ dec l ∧ dec l < 340282366920938463463374607431768211456 := by
    unfold wfE at hE
    split at hE
    · assumption
    · omega
  have e1 : psH l = dec l / 18446744073709551616 := by unfold psH wfH; rw [if_pos ⟨hT, hl⟩, if_pos hn]
  have e2 : psL l = dec l % 18446744073709551616 := by unfold psL wfL; rw [if_pos ⟨hT, hl⟩, if_pos hn]
  rw [e1, e2, wv_split] at h2
  exact ⟨hT, h2⟩
theorem psH_u64 (l : List UInt8) : U64 (psH l) ∧ U64 (psL l) := by
  have h : ∀ n, U64 (wfH n) ∧ U64 (wfL n) := by
    intro n
    unfold wfH wfL U64
    split <;> omega
  have := h (dec l)
  unfold psH psL
  refine ⟨?_, ?_⟩ <;> split
  · exact this.1
  · unfold U64; omega
  · exact this.2
  · unfold U64; omega

set_option maxHeartbeats 2000000 in
theorem rat_part_good (s : ByteArray) (hs : s.size ≤ maxLen) (hg : Good s.data.toList) (w : World) :
    Calls Tryd.prog 70 #[.string s] w fun e w' => e = .returned (.tuple #[.int .i64 (dec s.data.toList), .int .i64 0]) ∧ Below w.heap.size w w' := by
  obtain ⟨h0, hp⟩ := good_dec hg
  have h1 := hg.2
  have KP : Hid (∀ W, Calls Tryd.prog 85 #[.string s] W fun e w' => e = .returned (.tuple #[.agg #[.int .u64 0, .int .u64 (dec s.data.toList)], .int .i64 0]) ∧ Below W.heap.size W w') := by
    intro W
    have := wide_parse s hs W
    rw [hp] at this
    exact this
  clear hp hg
  generalize dec s.data.toList = n at *
  have KO := Lib.hid (fun W => wide_of 1073741824 W)
  have KC : Hid (∀ W, Calls Tryd.prog 63 #[.agg #[.int .u64 0, .int .u64 n], .agg #[.int .u64 0, .int .u64 1073741824]] W fun e w' => e = .returned (.int .i64 (cmpI n 1073741824)) ∧ Below W.heap.size W w') := by
    intro W
    have := wide_cmp 0 n 0 1073741824 (by unfold U64; omega) (by unfold U64; omega) W
    have e1 : wv 0 n = n := by unfold wv; omega
    have e2 : wv 0 1073741824 = 1073741824 := by unfold wv; omega
    rw [e1, e2] at this
    exact this
  have hc : cmpI n 1073741824 ≤ 0 := by rcases cmp_cases n 1073741824 with ⟨_, e⟩ | ⟨_, e⟩ | ⟨_, e⟩ <;> rw [e] <;> omega
  generalize cmpI n 1073741824 = c at *
  go_enter Tryd.func70, Tryd.ntmps70
  go_wp2_with fail
  refine (KP.out _).mono ?_
  rintro e w1 ⟨rfl, b1⟩
  have J1 := Lib.hid (((Keeps.start w).below b1).alloc #[.int .u64 0, .int .u64 n] 71).drew
  clear b1
  go_wp2
  obtain ⟨x0, x1, _, _⟩ := J1.out.head.two
  go_region_held3 (fun wr => wr.cell? ⟨w1.heap.size, 0, none⟩ = some (.int .u64 0) ∧ wr.cell? ⟨w1.heap.size, 1, none⟩ = some (.int .u64 n)) (go_keep)
    (first
      | (go_at_call 86; ((with_reducible refine (KO.out _).mono ?_); rintro e w2 ⟨rfl, b2⟩; have J1 := Lib.hid (J1.out.below b2); obtain ⟨x0, x1, _, _⟩ := J1.out.head.two; clear b2))
      | (go_at_call 63; ((with_reducible refine (KC.out _).mono ?_); rintro e w2 ⟨rfl, b2⟩; have J1 := Lib.hid (J1.out.below b2); obtain ⟨x0, x1, _, _⟩ := J1.out.head.two; clear b2)))
  all_goals
    go_wp2
    go_ret2
    exact ⟨rfl, J1.out.2.1⟩
set_option maxHeartbeats 2000000 in
theorem rat_part_bad (s : ByteArray) (hs : s.size ≤ maxLen) (hg : ¬ Good s.data.toList) (w : World) :
    Calls Tryd.prog 70 #[.string s] w fun e w' => ∃ c : Int, (c != 0) = true ∧ e = .returned (.tuple #[.int .i64 0, .int .i64 c]) ∧ Below w.heap.size w w' := by
  have KP : Hid (∀ W, Calls Tryd.prog 85 #[.string s] W fun e w' => e = .returned (.tuple #[.agg #[.int .u64 (psH s.data.toList), .int .u64 (psL s.data.toList)], .int .i64 (psE s.data.toList)]) ∧ Below W.heap.size W w') := fun W => wide_parse s hs W
  have hu := psH_u64 s.data.toList
  have hcase : psE s.data.toList = 0 → 1073741824 < wv (psH s.data.toList) (psL s.data.toList) := fun he => by
    rcases Int.lt_or_le 1073741824 (wv (psH s.data.toList) (psL s.data.toList)) with h | h
    · exact h
    · exact absurd (good_of he h) hg
  clear hg
  generalize psH s.data.toList = h at *
  generalize psL s.data.toList = l at *
  generalize psE s.data.toList = e at *
  by_cases he : e = 0
  · have hlt := hcase he
    have KO := Lib.hid (fun W => wide_of 1073741824 W)
    have KC : Hid (∀ W, Calls Tryd.prog 63 #[.agg #[.int .u64 h, .int .u64 l], .agg #[.int .u64 0, .int .u64 1073741824]] W fun e w' => e = .returned (.int .i64 1) ∧ Below W.heap.size W w') := by
      intro W
      have := wide_cmp h l 0 1073741824 hu.2 (by unfold U64; omega) W
      have e2 : wv 0 1073741824 = 1073741824 := by unfold wv; omega
      have e3 : cmpI (wv h l) 1073741824 = 1 := by unfold cmpI; rw [if_neg (by omega), if_neg (by omega)]
      rw [e2, e3] at this
      exact this
    obtain rfl := he
    clear hcase hlt hu
    go_enter Tryd.func70, Tryd.ntmps70
    go_wp2_with fail
    refine (KP.out _).mono ?_
    rintro e w1 ⟨rfl, b1⟩
    have J1 := Lib.hid (((Keeps.start w).below b1).alloc #[.int .u64 h, .int .u64 l] 71).drew
    clear b1
    go_wp2
    obtain ⟨x0, x1, _, _⟩ := J1.out.head.two
    go_region_held3 (fun wr => wr.cell? ⟨w1.heap.size, 0, none⟩ = some (.int .u64 h) ∧ wr.cell? ⟨w1.heap.size, 1, none⟩ = some (.int .u64 l)) (go_keep)
      (first
        | (go_at_call 86; ((with_reducible refine (KO.out _).mono ?_); rintro e w2 ⟨rfl, b2⟩; have J1 := Lib.hid (J1.out.below b2); obtain ⟨x0, x1, _, _⟩ := J1.out.head.two; clear b2))
        | (go_at_call 63; ((with_reducible refine (KC.out _).mono ?_); rintro e w2 ⟨rfl, b2⟩; have J1 := Lib.hid (J1.out.below b2); obtain ⟨x0, x1, _, _⟩ := J1.out.head.two; clear b2)))
    all_goals
      go_wp2
      go_ret2
      exact ⟨10, rfl, rfl, J1.out.2.1⟩
  · have hb : (e != 0) = true := by simpa using he
    have HB := Lib.hid hb
    clear hcase hu he
    go_enter Tryd.func70, Tryd.ntmps70
    go_wp2_with fail
    refine (KP.out _).mono ?_
    rintro e w1 ⟨rfl, b1⟩
    go_wp2
    go_ret2
    exact ⟨_, HB.out, rfl, b1.alloc b1.size _⟩
end Go.Proofs.YtbnpbflndnjmcaaDoor
