/- (*Fault).has. -/
import Derived.Test.YtndofhcnjmbfeaaDoorFauM
namespace Go.Proofs.YtndofhcnjmbfeaaDoor
open Go.RowKit Go.Extern.Stop Go.Stop Go.Extern
set_option linter.unusedVariables false
set_option linter.unusedSimpArgs false

/-- whatever rows were there are there -/
def Same (w w1 : World) : Prop := ∀ (g : Nat) (cs : Array Value), Box w g cs 74 → Box w1 g cs 74
theorem same_below {w w1 : World} (hb : Below w.heap.size w w1) : Same w w1 := fun g cs h => h.below hb h.lt
theorem Same.trans {a b c : World} (h : Same a b) (g : Same b c) : Same a c := fun x cs hx => g x cs (h x cs hx)
theorem same_put {w w1 : World} {m : Nat} {ps : List Nat} (hm : SetIs w m ps) (hk : ∀ g, g ≠ m → w1.heap[g]? = w.heap[g]?) : Same w w1 := fun g cs h => by
  have hne : g ≠ m := by
    rintro rfl
    obtain ⟨es, c, he, _⟩ := hm
    unfold Box at h
    rw [h] at he; cases he
  exact (hk g hne).trans h
theorem IsPart.same {w w' : World} (hb : Same w w') : ∀ {t : FT} {v : Value}, IsPart w t v → IsPart w' t v
  | .code _ _ _, _, h => h
  | .wrap _ _ t, _, ⟨b, u, e, hx, h⟩ => ⟨b, u, e, hb _ _ hx, IsPart.same hb h⟩
  | .both x y, _, ⟨a, b, u, u', e, ⟨hx, h⟩, ⟨hy, g⟩⟩ => ⟨a, b, u, u', e, ⟨hb _ _ hx, IsPart.same hb h⟩, ⟨hb _ _ hy, IsPart.same hb g⟩⟩
theorem IsFault.same {w w' : World} {t : FT} {b : Nat} (h : IsFault w t b) (hb : Same w w') : IsFault w' t b := by
  obtain ⟨v, hx, hp⟩ := h
  exact ⟨v, hb _ _ hx, hp.same hb⟩
/-- whether a link with what is wanted is anywhere in a fault -/
def hasF (W : Want) : FT → Bool
  | .code _ _ c => fits W c
  | .wrap _ _ t => hasF W t
  | .both x y => hasF W x || hasF W y
theorem hasF_chain (W : Want) : ∀ t : FT, hasF W (chain t) = hasF W t
  | .code _ _ _ => rfl
  | .wrap _ _ t => hasF_chain W t
  | .both _ _ => rfl
theorem fau_has_nil (v : Value) (w : World) : Calls Tryd.prog 29 #[.pointer none, v] w fun e w' => e = .returned (.bool false) ∧ w = w' := by
  go_enter Tryd.func29, Tryd.ntmps29
  go_wp2
  go_ret
  exact ⟨rfl, rfl⟩
/-- what is seen and what is left to do: all are faults in the world w0, a seen one has no wanted code at its end, its two parts are seen or left, and nothing wanted is in any that is not in t0 -/
structure Todo (w0 : World) (W : Want) (t0 : FT) (b0 : Nat) (S D : List Nat) : Prop where
  all : ∀ b, b ∈ S ∨ b ∈ D → ∃ t, IsFault w0 t b ∧ (hasF W t = true → hasF W t0 = true)
  root : b0 ∈ S ∨ b0 ∈ D
  nodup : S.Nodup
  leaf : ∀ b ∈ S, ∀ t, IsFault w0 t b → fitsEnd W (chain t) = false
  kids : ∀ b ∈ S, ∀ t, IsFault w0 t b → ∀ x y, chain t = .both x y → ∃ p q, IsFault w0 x p ∧ IsFault w0 y q ∧ (p ∈ S ∨ p ∈ D) ∧ (q ∈ S ∨ q ∈ D)
theorem Todo.none {w0 : World} {W : Want} {t0 : FT} {b0 : Nat} {S : List Nat} (h : Todo w0 W t0 b0 S []) : ∀ (n : Nat) (t : FT) (b : Nat), size t ≤ n → IsFault w0 t b → b ∈ S → hasF W t = false
  | n, t, b, hn, hf, hb => by
    have hl := h.leaf b hb t hf
    have hk := h.kids b hb t hf
    have hz := size_chain t
    rw [← hasF_chain]
    rcases chain_ends t with ⟨op, m, c, hch⟩ | ⟨x, y, hch⟩
    · rw [hch] at hl ⊢
      exact hl
    · rw [hch] at hz ⊢
      simp only [size] at hz
      obtain ⟨p, q, hp, hq, hp2, hq2⟩ := hk x y hch
      simp only [List.not_mem_nil, or_false] at hp2 hq2
      cases n with
      | zero => omega
      | succ n =>
        simp only [hasF]
        rw [Todo.none h n x p (by omega) hp hp2, Todo.none h n y q (by omega) hq hq2]; rfl
theorem Todo.done {w0 : World} {W : Want} {t0 : FT} {b0 : Nat} {S : List Nat} (h : Todo w0 W t0 b0 S []) (hf : IsFault w0 t0 b0) : hasF W t0 = false :=
  h.none (size t0) t0 b0 (Nat.le_refl _) hf (by rcases h.root with h1 | h1; exact h1; cases h1)
theorem Todo.start {w : World} {W : Want} {t0 : FT} {b0 : Nat} (hf : IsFault w t0 b0) : Todo w W t0 b0 [] [b0] where
  all := fun b hb => by
    rcases hb with hb | hb
    · cases hb
    · rw [List.mem_singleton.1 hb]; exact ⟨t0, hf, id⟩
  root := .inr (by simp)
  nodup := by simp
  leaf := fun b hb => by cases hb
  kids := fun b hb => by cases hb
theorem Todo.same {w0 w1 : World} {W : Want} {t0 : FT} {b0 : Nat} {S D : List Nat} (h : Todo w0 W t0 b0 S D) (hb : Same w0 w1) : Todo w1 W t0 b0 S D := by
  refine ⟨fun b hx => ?_, h.root, h.nodup, fun b hx t ht => ?_, fun b hx t ht x y hc => ?_⟩
  · obtain ⟨t, hf, hi⟩ := h.all b hx
    exact ⟨t, hf.same hb, hi⟩
  · obtain ⟨t1, hf, _⟩ := h.all b (.inl hx)
    rw [fault_same ht (hf.same hb)]
    exact h.leaf b hx t1 hf
  · obtain ⟨t1, hf, _⟩ := h.all b (.inl hx)
    rw [fault_same ht (hf.same hb)] at hc
    obtain ⟨p, q, hp, hq, h1, h2⟩ := h.kids b hx t1 hf x y hc
    exact ⟨p, q, hp.same hb, hq.same hb, h1, h2⟩
theorem hasF_fits {W : Want} {t : FT} (h : fitsEnd W (chain t) = true) : hasF W t = true := by
  rw [← hasF_chain]
  rcases chain_ends t with ⟨op, m, c, hch⟩ | ⟨x, y, hch⟩
  · rw [hch] at h ⊢; exact h
  · rw [hch] at h; cases h
/-- one that was seen is left out -/
theorem Todo.skip {w0 : World} {W : Want} {t0 : FT} {b0 : Nat} {S D : List Nat} {x : Nat} (h : Todo w0 W t0 b0 S (D ++ [x])) (hx : x ∈ S) : Todo w0 W t0 b0 S D := by
  have hm : ∀ b, b ∈ S ∨ b ∈ D ++ [x] → b ∈ S ∨ b ∈ D := fun b hb => by
    rcases hb with hb | hb
    · exact .inl hb
    · rcases List.mem_append.1 hb with hb | hb
      · exact .inr hb
      · rw [List.mem_singleton.1 hb]; exact .inl hx
  refine ⟨fun b hb => h.all b (hb.imp id fun hb => List.mem_append_left _ hb), hm _ h.root, h.nodup, h.leaf, fun b hb t hf x y hc => ?_⟩
  obtain ⟨p, q, hp, hq, h1, h2⟩ := h.kids b hb t hf x y hc
  exact ⟨p, q, hp, hq, hm _ h1, hm _ h2⟩
/-- one that ends in a code that is not wanted is seen -/
theorem Todo.end {w0 : World} {W : Want} {t0 : FT} {b0 : Nat} {S D : List Nat} {x : Nat} {tx : FT} (h : Todo w0 W t0 b0 S (D ++ [x])) (hx : x ∉ S) (hf : IsFault w0 tx x) (op : ByteArray) (n c : Int) (hch : chain tx = .code op n c) (hl : fitsEnd W (chain tx) = false) :
    Todo w0 W t0 b0 (S ++ [x]) D := by
  have hm : ∀ b, b ∈ S ∨ b ∈ D ++ [x] → b ∈ S ++ [x] ∨ b ∈ D := fun b hb => by
    simp only [List.mem_append, List.mem_singleton] at hb ⊢
    rcases hb with hb | hb | hb <;> simp [hb]
  have hm' : ∀ b, b ∈ S ++ [x] ∨ b ∈ D → b ∈ S ∨ b ∈ D ++ [x] := fun b hb => by
    simp only [List.mem_append, List.mem_singleton] at hb ⊢
    rcases hb with (hb | hb) | hb <;> simp [hb]
  refine ⟨fun b hb => h.all b (hm' b hb), hm _ h.root, ?_, fun b hb t ht => ?_, fun b hb t ht y z hc => ?_⟩
  · exact List.nodup_append.2 ⟨h.nodup, by simp, fun a ha b hb => by rw [List.mem_singleton.1 hb]; rintro rfl; exact hx ha⟩
  · rcases List.mem_append.1 hb with hb | hb
    · exact h.leaf b hb t ht
    · rw [List.mem_singleton.1 hb] at ht
      rw [fault_same ht hf]; exact hl
  · rcases List.mem_append.1 hb with hb | hb
    · obtain ⟨p, q, hp, hq, h1, h2⟩ := h.kids b hb t ht y z hc
      exact ⟨p, q, hp, hq, hm _ h1, hm _ h2⟩
    · rw [List.mem_singleton.1 hb] at ht
      rw [fault_same ht hf, hch] at hc
      cases hc
/-- one that ends in a combination is seen, and its two parts are left to do -/
theorem Todo.fork {w0 : World} {W : Want} {t0 : FT} {b0 : Nat} {S D : List Nat} {x p q : Nat} {tx ta tb : FT} (h : Todo w0 W t0 b0 S (D ++ [x])) (hx : x ∉ S) (hf : IsFault w0 tx x) (hch : chain tx = .both ta tb) (hp : IsFault w0 ta p) (hq : IsFault w0 tb q) :
    Todo w0 W t0 b0 (S ++ [x]) (D ++ [q, p]) := by
  have hm : ∀ b, b ∈ S ∨ b ∈ D ++ [x] → b ∈ S ++ [x] ∨ b ∈ D ++ [q, p] := fun b hb => by
    simp only [List.mem_append, List.mem_singleton, List.mem_cons, List.not_mem_nil, or_false] at hb ⊢
    rcases hb with hb | hb | hb <;> simp [hb]
  obtain ⟨tx', hf', himp⟩ := h.all x (.inr (by simp))
  obtain rfl := fault_same hf' hf
  have hch2 := hasF_chain W tx'
  rw [hch] at hch2
  simp only [hasF] at hch2
  refine ⟨fun b hb => ?_, hm _ h.root, ?_, fun b hb t ht => ?_, fun b hb t ht y z hc => ?_⟩
  · simp only [List.mem_append, List.mem_singleton, List.mem_cons, List.not_mem_nil, or_false] at hb
    rcases hb with (hb | hb) | hb | hb | hb
    · exact h.all b (.inl hb)
    · subst hb; exact ⟨tx', hf, himp⟩
    · exact h.all b (.inr (by simp [hb]))
    · subst hb; exact ⟨tb, hq, fun h1 => himp (by rw [← hch2, h1]; simp)⟩
    · subst hb; exact ⟨ta, hp, fun h1 => himp (by rw [← hch2, h1]; simp)⟩
  · exact List.nodup_append.2 ⟨h.nodup, by simp, fun a ha b hb => by rw [List.mem_singleton.1 hb]; rintro rfl; exact hx ha⟩
  · rcases List.mem_append.1 hb with hb | hb
    · exact h.leaf b hb t ht
    · rw [List.mem_singleton.1 hb] at ht
      rw [fault_same ht hf, hch]; rfl
  · rcases List.mem_append.1 hb with hb | hb
    · obtain ⟨p', q', hp', hq', h1, h2⟩ := h.kids b hb t ht y z hc
      exact ⟨p', q', hp', hq', hm _ h1, hm _ h2⟩
    · rw [List.mem_singleton.1 hb] at ht
      rw [fault_same ht hf, hch] at hc
      cases hc
      exact ⟨p, q, hp, hq, .inr (by simp), .inr (by simp)⟩
end Go.Proofs.YtndofhcnjmbfeaaDoor
