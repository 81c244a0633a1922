/- fault.Code. -/
import Derived.Test.YtndofhcnjmbfeaaDoorFauI
namespace Go.Proofs.YtndofhcnjmbfeaaDoor
open Go.RowKit Go.Extern.Stop Go.Stop Go.Extern
set_option linter.unusedVariables false
set_option linter.unusedSimpArgs false

theorem part_same {w : World} : ∀ {t t' : FT} {v : Value}, IsPart w t v → IsPart w t' v → t = t'
  | .code _ _ _, .code _ _ _, _, h, h' => by
    subst h
    simp [IsPart, codedV] at h'
    obtain ⟨rfl, rfl, rfl⟩ := h'
    rfl
  | .both x y, .both x' y', _, ⟨a, b, u, u', e, ⟨hx, h⟩, ⟨hy, g⟩⟩, ⟨a2, b2, v, v', e', ⟨hx', h'⟩, ⟨hy', g'⟩⟩ => by
    subst e
    simp [bothV] at e'
    obtain ⟨rfl, rfl⟩ := e'
    obtain rfl := box_one hx hx'
    obtain rfl := box_one hy hy'
    rw [part_same h h', part_same g g']
  | .wrap _ _ t, .wrap _ _ t', _, ⟨b, u, e, hx, h⟩, ⟨b', u', e', hx', h'⟩ => by
    subst e
    simp [wrapV] at e'
    obtain ⟨rfl, rfl, rfl⟩ := e'
    obtain rfl := box_one hx hx'
    rw [part_same h h']
  | .code _ _ _, .both _ _, _, h, ⟨_, _, _, _, e', _⟩ => by subst e'; simp [IsPart, codedV, bothV] at h
  | .both _ _, .code _ _ _, _, ⟨_, _, _, _, e', _⟩, h => by subst e'; simp [IsPart, codedV, bothV] at h
  | .wrap _ _ t, .code _ _ _, _, ⟨b, u, e, _⟩, h => by subst e; simp [IsPart, wrapV, codedV] at h
  | .code _ _ _, .wrap _ _ t, _, h, ⟨b, u, e, _⟩ => by subst e; simp [IsPart, wrapV, codedV] at h
  | .wrap _ _ t, .both _ _, _, ⟨b, u, e, _⟩, ⟨_, _, _, _, e', _⟩ => by subst e; simp [wrapV, bothV] at e'
  | .both _ _, .wrap _ _ t, _, ⟨_, _, _, _, e', _⟩, ⟨b, u, e, _⟩ => by subst e; simp [wrapV, bothV] at e'
theorem fault_same {w : World} {t t' : FT} {b : Nat} (h : IsFault w t b) (h' : IsFault w t' b) : t = t' := by
  obtain ⟨v, hx, hp⟩ := h
  obtain ⟨v', hx', hp'⟩ := h'
  obtain rfl := box_one hx hx'
  exact part_same hp hp'
open Classical in
/-- how many links and combinations are in the fault that v points to -/
noncomputable def szp (w : World) (v : Value) : Nat := if h : ∃ t b, v = ptr b 0 ∧ IsFault w t b then size h.choose else 0
theorem szp_eq {w : World} {t : FT} {b : Nat} (h : IsFault w t b) : szp w (ptr b 0) = size t := by
  have hx : ∃ t b', ptr b 0 = ptr b' 0 ∧ IsFault w t b' := ⟨t, b, rfl, h⟩
  unfold szp
  rw [dif_pos hx]
  obtain ⟨b', e, h'⟩ := hx.choose_spec
  simp at e
  subst e
  rw [fault_same h' h]
set_option maxRecDepth 100000 in
set_option maxHeartbeats 4000000 in
theorem fau_code (t0 : FT) (b0 : Nat) (w : World) (hf : IsFault w t0 b0) (hG : Glob w) :
    Calls Tryd.prog 7 #[ptr b0 0] w fun e w' => e = .returned (.int .i64 (codeF t0)) ∧ Below w.heap.size w w' := by
  have hlt0 := hG.lt
  go_enter Tryd.func7, Tryd.ntmps7
  go_wp2
  go_loopw [0] (fun f wr => ∃ t b, f = ptr b 0 ∧ Hid (IsFault wr t b) ∧ Hid (codeF t = codeF t0) ∧ Hid (Below w.heap.size w wr)) (fun f wr => szp wr f)
  case atStart => exact ⟨t0, b0, rfl, hf, rfl, Below.refl _ _⟩
  case round =>
    obtain ⟨t, b, rfl, HF, HC, HB⟩ := hrel
    have hGr := hG.below hlt0 HB.out
    have KL := Lib.hid (fau_link t b wr HF.out hGr)
    have hsz := Lib.hid (szp_eq HF.out)
    rcases chain_ends t with ⟨op, n, c, hch⟩ | ⟨x, y, hch⟩
    · rw [hch] at KL
      simp only [resC] at KL
      have HV : Hid (c = codeF t0) := by show _ = _; rw [← HC.out, ← codeF_chain, hch]; rfl
      go_wp2_with (go_at_call 22; refine KL.out.mono ?_; rintro e w1 ⟨rfl, hb1⟩)
      go_ret
      have hb2 := hb1.alloc hb1.size (.cells #[.string op, .int .i64 n, .int .i64 c] 55)
      exact ⟨ret1i HV.out, HB.out.trans (hb2.mono HB.out.size)⟩
    · rw [hch] at KL
      simp only [resC] at KL
      have HV : Hid (codeF x = codeF t0) := by show _ = _; rw [← HC.out, ← codeF_chain t, hch]; rfl
      have HS : Hid (size x < size t) := by
        show _ < _
        have := size_chain t
        rw [hch] at this
        simp only [size] at this
        omega
      have KM := Lib.hid (fun W (h : Below wr.heap.size wr W) => fau_comb_hit t b W (HF.out.below h) (hGr.below hGr.lt h) x y hch)
      go_wp2_with (go_at_call 22; refine KL.out.mono ?_; rintro e w1 ⟨rfl, hb1⟩)
      have hb2 := hb1.alloc hb1.size (.cells zC 55)
      refine (KM.out _ hb2).mono ?_
      rintro e w2 ⟨p, q, rfl, hA, hB2, hb3⟩
      have hb4 := hb2.trans (hb3.mono hb2.size)
      have hA3 := hA.below ((Below.refl w2.heap.size w2).alloc (Nat.le_refl _) (.cells #[ptr p 0, ptr q 0] 59))
      have hz := szp_eq hA3
      have hb5 := hb4.alloc hb4.size (.cells #[ptr p 0, ptr q 0] 59)
      go_wp2
      exact ⟨⟨x, p, rfl, hA3, HV, HB.out.trans (hb5.mono HB.out.size)⟩, by rw [hz, hsz.out]; exact HS.out⟩
end Go.Proofs.YtndofhcnjmbfeaaDoor
