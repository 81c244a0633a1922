/- The contract of copseref01.Log. -/
import Derived.Test.YteenemdiokajbaaBase
namespace Go.Proofs.Yteenemdiokajbaa
open Go.RowKit

theorem pow_s (k : Nat) : (2 : Int) ^ (k + 1) = 2 ^ k * 2 := Int.pow_succ 2 k
theorem ref_log (n : Int) (hn : I64 n) (w : World) : Calls Try.prog 46 #[.int .i64 n] w (LogPost n w) := by
  obtain ⟨hn, hn'⟩ := hn
  go_enter Try.func46, Try.ntmps46
  go_wp2
  go_loop [3, 4] (fun kv pv => ∃ (k : Nat) (P : Int), k ≤ 62 ∧ kv = .int .i64 k ∧ pv = .int .i64 P ∧ Hid (P = 2 ^ k) ∧ Hid (∀ j, j < k → (2 : Int) ^ j < n)) (fun kv _ => 63 - (intOf kv).toNat)
  case atStart => exact ⟨0, 1, by omega, rfl, rfl, rfl, fun j h => absurd h (by omega)⟩
  case round =>
    obtain ⟨k, P, hk, rfl, rfl, HP, HJ⟩ := hrel
    have hp := pow_wrap (k := k) (by omega)
    rw [← HP.out] at hp
    obtain ⟨_, hp1, hp2⟩ := hp
    by_cases hlt : P < n
    · have HJ' : Hid (∀ j, j < k + 1 → (2 : Int) ^ j < n) := by
        intro j hj
        rcases Nat.lt_succ_iff_lt_or_eq.1 hj with h | rfl
        · exact HJ.out j h
        · rw [← HP.out]; exact hlt
      have HP' : Hid (P * 2 = 2 ^ (k + 1)) := by show _ = _; rw [pow_s, HP.out]
      have hk3 : k < 63 := by omega
      by_cases h62 : k = 62
      · subst h62
        obtain rfl : P = 4611686018427387904 := by rw [HP.out]; rfl
        have hw : wrap64 9223372036854775808 < 0 := by unfold wrap64; omega
        go_wp2
        go_ret
        exact ⟨63, ⟨by omega, HJ'.out, fun h => absurd h (by omega)⟩, rfl, rfl⟩
      · have hp3 := pow_wrap (k := k + 1) (by omega)
        rw [← HP'.out] at hp3
        obtain ⟨_, hp4, hp5⟩ := hp3
        go_wp2
        exact ⟨⟨k + 1, P * 2, by omega, by go_num, rfl, HP', HJ'⟩, by simp [intOf]; omega⟩
    · have HE : Hid (n ≤ 2 ^ k) := by show _ ≤ _; rw [← HP.out]; omega
      go_wp2
      go_ret
      exact ⟨k, ⟨by omega, HJ.out, fun _ => HE.out⟩, rfl, rfl⟩
end Go.Proofs.Yteenemdiokajbaa
