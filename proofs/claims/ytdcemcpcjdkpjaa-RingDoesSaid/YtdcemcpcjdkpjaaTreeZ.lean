import Derived.Test.YtdcemcpcjdkpjaaTreeY
import Derived.Test.YtdcemcpcjdkpjaaNumLog

/-! Layer 10: the reference's Grow. -/
namespace Go.Proofs.Ytdcemcpcjdkpjaa
open Go.RowKit
set_option linter.unusedVariables false
set_option linter.unusedSimpArgs false

theorem liesT_off {w w' : World} {A : Option Addr} {N : List TN} {g : Nat} (h : LiesT w w.heap.size A N) (hs : w.heap.size ≤ w'.heap.size) (hn : ∀ ad, A = some ad → 0 < N.length → ad.block ≠ g) (hc : ∀ n ∈ N, ∀ ad, n.a = some ad → 0 < n.co.length → ad.block ≠ g) (hk : ∀ k, k ≠ g → w'.heap[k]? = w.heap[k]?) : LiesT w' w'.heap.size A N := by
  refine ⟨fun h0 => ?_, fun n hn' h0 => ?_⟩
  · obtain ⟨ad, e, hlt, hcell⟩ := h.1 h0
    have hne := hn ad e h0
    refine ⟨ad, e, by omega, fun j hj => ?_⟩
    have key : ∀ i, w'.cell? (ad.add i) = w.cell? (ad.add i) := fun i => World.cell?_of_block (by rw [add_block]; exact hk _ hne)
    unfold Nd5
    rw [key, key, key, key, key]
    exact hcell j hj
  · obtain ⟨ad, e, hlt, hcell⟩ := h.2 n hn' h0
    have hne := hc n hn' ad e h0
    exact ⟨ad, e, by omega, fun j hj => (World.cell?_of_block (by rw [add_block]; exact hk _ hne)).trans (hcell j hj)⟩
theorem dim_row (R : List Row) : ((R.getD 0 row0).l.length : Int) = (dimR R : Int) := rfl
end Go.Proofs.Ytdcemcpcjdkpjaa
