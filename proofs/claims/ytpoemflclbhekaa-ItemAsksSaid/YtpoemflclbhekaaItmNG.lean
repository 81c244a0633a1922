/- Layer 22 (item): requests read, in the reference: GetAsk, all ways. -/
import Derived.Test.YtpoemflclbhekaaItmGa
import Derived.Test.YtpoemflclbhekaaItmGb
namespace Go.Proofs.Ytpoemflclbhekaa
open Go.RowKit

theorem ref_GetAsk (b : List Int) (A : Option Addr) (c k : Nat) (e : Int) (w : World) (hA : LiesY w w.heap.size A b) (hb : byt b) (hl : b.length ≤ 1000000) (hk : k ≤ b.length) : Calls Try.prog 28 #[.agg #[.slice A b.length c, .int .i64 (k : Nat), .int .i64 e]] w (GivesRA A b.length c (gA b k e) w) := by
  by_cases h1 : 1 ≤ ((rN b k e 1099511627776).2 : Int)
  · by_cases h7 : ((rN b k e 1099511627776).2 : Int) ≤ 7
    · have hok : okK ((rN b k e 1099511627776).2 : Int) = true := decide_eq_true ⟨h1, h7⟩
      rcases pats ((rN b k e 1099511627776).2 : Int) with h | h | h | h | h
      · exact ref_GetAsk_w0 b A c k e w hA hb hl hk ⟨hok, h⟩
      · exact ref_GetAsk_w1 b A c k e w hA hb hl hk ⟨hok, h⟩
      · exact ref_GetAsk_w2 b A c k e w hA hb hl hk ⟨hok, h⟩
      · exact ref_GetAsk_w3 b A c k e w hA hb hl hk ⟨hok, h⟩
      · exact ref_GetAsk_w4 b A c k e w hA hb hl hk ⟨hok, h⟩
    · exact ref_GetAsk_w6 b A c k e w hA hb hl hk ⟨h1, h7⟩
  · exact ref_GetAsk_w5 b A c k e w hA hb hl hk h1
end Go.Proofs.Ytpoemflclbhekaa
