/- Numerals that are read: strconv.Atoi, the reference's digits. -/
import Derived.Test.YtiepfkhbebdkeaaDoorScoT
import Derived.Lib.AtoiTie
import Derived.Lib.AtoiAllMem
namespace Go.Proofs.YtiepfkhbebdkeaaDoor
open Go.RowKit
set_option linter.unusedVariables false
set_option linter.unusedSimpArgs false
set_option maxRecDepth 100000

theorem decFrom_digs : ∀ (l : List UInt8) (acc : Nat), l.all digB = true → ∃ n : Nat, Lib.decFrom acc l = some n ∧ (n : Int) = l.foldl (fun a c => a * 10 + ((c.toNat : Int) - 48)) (acc : Int) := by
  intro l
  induction l with
  | nil => intro acc _; exact ⟨acc, rfl, rfl⟩
  | cons b r ih =>
    intro acc h
    rw [List.all_cons, Bool.and_eq_true] at h
    have hb := digB_bd h.1
    have hv : Lib.digitVal b = some (b.toNat - 48) := by unfold Lib.digitVal; rw [if_pos (by omega)]
    obtain ⟨n, h1, h2⟩ := ih (acc * 10 + (b.toNat - 48)) h.2
    refine ⟨n, ?_, ?_⟩
    · unfold Lib.decFrom; rw [hv]; exact h1
    · rw [h2, List.foldl_cons]
      congr 1
      omega
theorem decNat_txt (n : Nat) : Lib.decNat (txt n) = some n := by
  obtain ⟨m, h1, h2⟩ := decFrom_digs (txt n) 0 (txt_all n)
  have h3 : (m : Int) = n := by
    rw [h2]
    exact dec_txt n
  obtain rfl : m = n := by omega
  unfold Lib.decNat
  cases h : txt m with
  | nil => exact absurd h (txt_ne m)
  | cons a b => rw [h] at h1; exact h1
theorem atoi_txt (n : Nat) : Lib.atoi (txt n) = some (n : Int) := by
  have h := decNat_txt n
  have ha := txt_all n
  cases hl : txt n with
  | nil => exact absurd hl (txt_ne n)
  | cons b r =>
    rw [hl] at h ha
    rw [List.all_cons, Bool.and_eq_true] at ha
    have hb := digB_bd ha.1
    have h45 : (b == 45) = false := by
      rw [beq_eq_false_iff_ne]; intro e; rw [e] at hb; have : ((45 : UInt8).toNat : Int) = 45 := rfl; omega
    have h43 : (b == 43) = false := by
      rw [beq_eq_false_iff_ne]; intro e; rw [e] at hb; have : ((43 : UInt8).toNat : Int) = 43 := rfl; omega
    unfold Lib.atoi
    simp only [h45, h43, h]
    rfl
/-- what Atoi reads -/
def atN (l : List UInt8) : Int := match Lib.atoiAll l with | .ok v => v | .range => Lib.atoiSat l | _ => 0
theorem atN_txt (n : Nat) (h : n < 100000000000000000) : atN (txt n) = n := by
  have hl := txt_len 16 n (by show _ < 10 ^ 17; omega)
  unfold atN
  rw [Lib.atoiAll_short _ (by omega), atoi_txt]
  rfl
theorem atN_i64 (l : List UInt8) : I64 (atN l) := by
  unfold atN
  rcases h : Lib.atoiAll l with v | - | -
  · exact Lib.atoiAll_bounds h
  · unfold I64; simp only; omega
  · exact Lib.atoiSat_bounds l
/-- the library's own errors are there -/
def ErV (w : World) (g : Nat) : Prop := ∃ ev, w.cell? ⟨g, 0, none⟩ = some ev ∧ (ev = .nilIface ∨ ∃ te pe, ev = .iface te pe)
def Ers (w : World) : Prop := ErV w 1 ∧ ErV w 2
theorem ErV.below {w w' : World} {g : Nat} (h : ErV w g) (hb : Below w.heap.size w w') : ErV w' g := by
  obtain ⟨ev, h1, h2⟩ := h
  exact ⟨ev, (hb.cell (World.block_lt_of_cell? w ⟨g, 0, none⟩ h1)).trans h1, h2⟩
theorem Ers.below {w w' : World} (h : Ers w) (hb : Below w.heap.size w w') : Ers w' := ⟨h.1.below hb, h.2.below hb⟩
theorem Ers.alloc {w : World} (h : Ers w) (o : Obj) : Ers (w.alloc o) := h.below ((Below.refl _ _).alloc (Nat.le_refl _) _)
theorem Ers.drew {w : World} (h : Ers w) : Ers w.drew := h.below (Below.refl _ _).drew
theorem str_atoi (s : ByteArray) (hs : s.size ≤ 1000) (w : World) (he : Ers w) :
    Calls Tryd.prog 37 #[.string s] w fun e w' => ∃ ev, e = .returned (.tuple #[.int .i64 (atN s.data.toList), ev]) ∧ Below w.heap.size w w' := by
  unfold atN
  rcases h : Lib.atoiAll s.data.toList with v | - | -
  · refine (Tryd.strconv_Atoi_ok s (by omega) v h w).mono fun e w' g => ?_
    obtain ⟨g1, g2⟩ := g
    refine ⟨_, g1, ?_⟩
    rcases g2 with rfl | ⟨t, rfl⟩
    · exact Below.refl _ _
    · exact Lib.bytesWorld_below _ _ _
  · obtain ⟨ev, e1, e2⟩ := he.1
    refine (Tryd.strconv_Atoi_syntax s (by omega) h ev w e1 e2).mono fun e w' g => ?_
    obtain ⟨n, g1, -, -, g4⟩ := g
    exact ⟨_, g1, g4⟩
  · obtain ⟨ev, e1, e2⟩ := he.2
    refine (Tryd.strconv_Atoi_range s (by omega) h ev w e1 e2).mono fun e w' g => ?_
    obtain ⟨n, g1, -, -, g4⟩ := g
    exact ⟨_, g1, g4⟩
/-- which score a text is -/
def spOk (l : List UInt8) : Prop := ScoOk (dec (cutA l)) (dec (cutB l)) ∧ stx (dec (cutA l)) (dec (cutB l)) = l
instance (l : List UInt8) : Decidable (spOk l) := by unfold spOk; infer_instance
def spP (l : List UInt8) : Int := if spOk l then dec (cutA l) else 0
def spQ (l : List UInt8) : Int := if spOk l then dec (cutB l) else 0
def spE (l : List UInt8) : Int := if spOk l then 0 else 20
abbrev spV (l : List UInt8) : Value := .tuple #[.agg #[.int .i64 (spP l), .int .i64 (spQ l)], .int .i64 (spE l)]
theorem spV_no {l : List UInt8} (h : ¬ spOk l) : Ending.returned (.tuple #[.agg #[.int .i64 0, .int .i64 0], .int .i64 20]) = .returned (spV l) := by
  unfold spV spP spQ spE; rw [if_neg h, if_neg h, if_neg h]
theorem stx_cut {p q : Int} {l : List UInt8} (h : ScoOk p q) (e : stx p q = l) : cutA l = txt p.toNat ∧ cutB l = txt q.toNat ∧ dec (cutA l) = p ∧ dec (cutB l) = q ∧ l = txt p.toNat ++ 47 :: txt q.toNat := by
  obtain ⟨h1, h2, h3, h4, -⟩ := id h
  unfold stx at e
  rw [if_pos h] at e
  unfold itxt at e
  rw [if_neg (by omega), if_neg (by omega)] at e
  obtain ⟨c1, c2, -⟩ := cut_txt p.toNat (txt q.toNat)
  rw [e] at c1 c2
  refine ⟨c1, c2, ?_, ?_, e.symm⟩
  · rw [c1, dec_txt]; omega
  · rw [c2, dec_txt]; omega
theorem spOk_of {p q : Int} {l : List UInt8} (h : ScoOk p q) (e : stx p q = l) : spOk l ∧ spP l = p ∧ spQ l = q ∧ spE l = 0 := by
  obtain ⟨-, -, c1, c2, -⟩ := stx_cut h e
  have hs : spOk l := by unfold spOk; rw [c1, c2]; exact ⟨h, e⟩
  unfold spP spQ spE
  rw [if_pos hs, if_pos hs, if_pos hs]
  exact ⟨hs, c1, c2, rfl⟩
theorem spV_ok {p q : Int} {l : List UInt8} (h : ScoOk p q) (e : stx p q = l) : Ending.returned (.tuple #[.agg #[.int .i64 p, .int .i64 q], .int .i64 0]) = .returned (spV l) := by
  obtain ⟨-, h1, h2, h3⟩ := spOk_of h e
  unfold spV; rw [h1, h2, h3]
theorem spOk_at {l : List UInt8} (h : spOk l) : ScoOk (atN (cutA l)) (atN (cutB l)) ∧ stx (atN (cutA l)) (atN (cutB l)) = l := by
  obtain ⟨h1, h2⟩ := h
  obtain ⟨a1, a2, -, -, -⟩ := stx_cut h1 h2
  obtain ⟨g1, g2, g3, g4, -⟩ := id h1
  have e1 : atN (cutA l) = dec (cutA l) := by
    conv => lhs; rw [a1]
    rw [atN_txt _ (by omega)]; omega
  have e2 : atN (cutB l) = dec (cutB l) := by
    conv => lhs; rw [a2]
    rw [atN_txt _ (by omega)]; omega
  rw [e1, e2]
  exact ⟨h1, h2⟩
end Go.Proofs.YtiepfkhbebdkeaaDoor
