/- The reference of layer 4: Text; Error; Text and Steps of nil. -/
import Derived.Test.YtndofhcnjmbfeaaDoorPlyH
import Derived.Test.YtndofhcnjmbfeaaDoorDigW
namespace Go.Proofs.YtndofhcnjmbfeaaDoor
open Go.RowKit Go.Extern.Stop Go.Stop Go.Extern
set_option linter.unusedVariables false
set_option linter.unusedSimpArgs false
set_option maxRecDepth 100000

theorem add_run (a b : ByteArray) (h : a.size + b.size ≤ 9223372036854775807) (W : World) : (Op.stringOp .add a b).run Tryd.prog W = .ok (.string (a ++ b)) W := run_string_add_sum _ _ _ h
theorem itoa_sz (n : Int) (hn : I64 n) : (⟨(Lib.itoa n).toArray⟩ : ByteArray).size ≤ 21 := by show (Lib.itoa n).toArray.size ≤ 21; simpa using Lib.itoa_length_le n hn.1 hn.2
theorem one_sz (b : UInt8) : (one b).size = 1 := rfl
set_option maxHeartbeats 4000000 in
theorem ref_text {T : List FT} {N : List Nd} (hn : ∀ i, i < T.length → NdIs T i (N.getD i nd0)) (hk : ∀ i, i < T.length → okN4 (N.getD i nd0)) (hs : ∀ i, i < T.length → (textF (T.getD i tD)).size ≤ 1073741824) (A : Option Addr) (c M : Nat) (hM : M = T.length) (hl : N.length = M) : ∀ (n : Nat) (i : Nat), i < n → i < M → ∀ w : World, LiesN w w.heap.size A N →
    Calls Tryd.prog 10 #[.slice A M c, .int .i64 i] w fun e w' => e = .returned (.string (textF (T.getD i tD))) ∧ Below w.heap.size w w'
  | 0, i, h, _, _, _ => absurd h (by omega)
  | n + 1, i, h, hi, w, hA => by
    have IH := Lib.hid (fun (j : Nat) (hj : j < i) W (hW : LiesN W W.heap.size A N) => ref_text hn hk hs A c M hM hl n j (by omega) (by omega) W hW)
    have HA := Lib.hid hA
    obtain ⟨ad, rfl, hadb, hcell⟩ := hA (by omega)
    have hcl := hcell i (by omega)
    have HC : Hid (∀ W, Below w.heap.size w W → W.cell? (ad.add (i * 6)) = some (.int .i64 (N.getD i nd0).doo) ∧ W.cell? ⟨(ad.add (i * 6)).block, (ad.add (i * 6)).off + 1, none⟩ = some (.string (N.getD i nd0).op) ∧ W.cell? ⟨(ad.add (i * 6)).block, (ad.add (i * 6)).off + 2, none⟩ = some (.int .i64 (N.getD i nd0).at_) ∧ W.cell? ⟨(ad.add (i * 6)).block, (ad.add (i * 6)).off + 3, none⟩ = some (.int .i64 (N.getD i nd0).code) ∧ W.cell? ⟨(ad.add (i * 6)).block, (ad.add (i * 6)).off + 4, none⟩ = some (.int .i64 (N.getD i nd0).a) ∧ W.cell? ⟨(ad.add (i * 6)).block, (ad.add (i * 6)).off + 5, none⟩ = some (.int .i64 (N.getD i nd0).b)) := fun W hW => by
      obtain ⟨c0, c1, c2, c3, c4, c5⟩ := hcl
      rw [fld ad (i * 6) 1 (by omega), fld ad (i * 6) 2 (by omega), fld ad (i * 6) 3 (by omega), fld ad (i * 6) 4 (by omega), fld ad (i * 6) 5 (by omega)]
      exact ⟨(hW.cell (by rw [add_block]; exact hadb)).trans c0, (hW.cell (by rw [add_block]; exact hadb)).trans c1, (hW.cell (by rw [add_block]; exact hadb)).trans c2, (hW.cell (by rw [add_block]; exact hadb)).trans c3, (hW.cell (by rw [add_block]; exact hadb)).trans c4, (hW.cell (by rw [add_block]; exact hadb)).trans c5⟩
    have HSZ : Hid (∀ j, j < i → (textF (T.getD j tD)).size ≤ 1073741824) := fun j hj => hs j (by omega)
    have hg : (i : Int) < (M : Int) := by omega
    have hi0 : ¬ (i : Int) < 0 := by omega
    have hnd := hn i (by omega)
    have hok := hk i (by omega)
    clear hA hcell hcl hn hk hs hl hM
    generalize N.getD i nd0 = x at *
    obtain ⟨xd, xo, xt, xc, xa, xb⟩ := x
    simp only at HC
    obtain ⟨o1, o2, o3⟩ := hok
    simp only at o1 o2 o3
    obtain ⟨d0, d1, d2, d3, d4, d5⟩ := HC.out w (Below.refl _ _)
    have HB0 := Lib.hid (Below.refl w.heap.size w)
    have KD := Lib.hid (fun W => ref3_digitsI xt o1 W)
    have KC := Lib.hid (fun W => ref3_digitsI xc o2 W)
    have z1 := itoa_sz xt o1
    have z2 := itoa_sz xc o2
    have e32 : (⟨#[32]⟩ : ByteArray).size = 1 := rfl
    have e61 : (⟨#[61]⟩ : ByteArray).size = 1 := rfl
    have e62 : (⟨#[62]⟩ : ByteArray).size = 1 := rfl
    rcases hnd with ⟨e1, e2, e3⟩ | ⟨e1, j, e2, e3, e4⟩ | ⟨e1, e1', j, k, e2, e2', e3, e3', e4⟩
    · simp only at e1 e3
      subst e1
      rw [e3]
      by_cases hneg : xt < 0
      · have hge : ¬ (0 : Int) ≤ xt := by omega
        have HR : Hid ((xo ++ ⟨#[61]⟩) ++ ⟨(Lib.itoa xc).toArray⟩ = textF (.code xo xt xc)) := by show _ = _; unfold textF stepT one; rw [if_pos hneg]
        have c1 := add_run xo ⟨#[61]⟩ (by omega)
        have c2 := add_run (xo ++ ⟨#[61]⟩) ⟨(Lib.itoa xc).toArray⟩ (by rw [ByteArray.size_append]; omega)
        clear e2 e3 IH HA z1 z2 o3 e32 e61 e62 KD
        generalize (⟨(Lib.itoa xc).toArray⟩ : ByteArray) = tc at *
        generalize textF (.code xo xt xc) = R at *
        go_enter Tryd.func10, Tryd.ntmps10
        go_wp2_with fail
        refine (KC.out _).mono ?_
        rintro e w1 ⟨rfl, b⟩
        have HB1 := Lib.hid (HB0.out.trans b)
        clear b
        go_wp2
        go_ret
        exact ⟨by rw [← HR.out]; rfl, HB1.out⟩
      · have hge : (0 : Int) ≤ xt := by omega
        have HR : Hid (((((xo ++ ⟨#[32]⟩) ++ ⟨(Lib.itoa xt).toArray⟩) ++ ⟨#[61]⟩) ++ ⟨(Lib.itoa xc).toArray⟩) = textF (.code xo xt xc)) := by show _ = _; unfold textF stepT one; rw [if_neg hneg]
        have c0 := add_run xo ⟨#[32]⟩ (by omega)
        have c1 := add_run (xo ++ ⟨#[32]⟩) ⟨(Lib.itoa xt).toArray⟩ (by rw [ByteArray.size_append]; omega)
        have c2 := add_run ((xo ++ ⟨#[32]⟩) ++ ⟨(Lib.itoa xt).toArray⟩) ⟨#[61]⟩ (by rw [ByteArray.size_append, ByteArray.size_append]; omega)
        have c3 := add_run (((xo ++ ⟨#[32]⟩) ++ ⟨(Lib.itoa xt).toArray⟩) ++ ⟨#[61]⟩) ⟨(Lib.itoa xc).toArray⟩ (by rw [ByteArray.size_append, ByteArray.size_append, ByteArray.size_append]; omega)
        clear e2 e3 IH HA z1 z2 o3 e32 e61 e62
        generalize (⟨(Lib.itoa xc).toArray⟩ : ByteArray) = tc at *
        generalize (⟨(Lib.itoa xt).toArray⟩ : ByteArray) = tt at *
        generalize textF (.code xo xt xc) = R at *
        go_enter Tryd.func10, Tryd.ntmps10
        go_wp2_with fail
        refine (KD.out _).mono ?_
        rintro e w1 ⟨rfl, b⟩
        have HB1 := Lib.hid (HB0.out.trans b)
        obtain ⟨d0, d1, d2, d3, d4, d5⟩ := HC.out w1 HB1.out
        clear b
        go_wp2_with fail
        refine (KC.out _).mono ?_
        rintro e w2 ⟨rfl, b⟩
        have HB2 := Lib.hid (HB1.out.trans (b.mono HB1.out.size))
        clear b
        go_wp2
        go_ret
        exact ⟨by rw [← HR.out]; rfl, HB2.out⟩
    · simp only at e1 e3 e4
      subst e1
      subst e3
      rw [e4]
      have IJ := Lib.hid (fun W hW => IH.out j e2 W hW)
      have hzj := HSZ.out j e2
      by_cases hneg : xt < 0
      · have hge : ¬ (0 : Int) ≤ xt := by omega
        have HR : Hid ((xo ++ ⟨#[62]⟩) ++ textF (T.getD j tD) = textF (.wrap xo xt (T.getD j tD))) := by show _ = _; rw [textF]; unfold stepT one; rw [if_pos hneg]
        have c1 := add_run xo ⟨#[62]⟩ (by omega)
        have c2 := add_run (xo ++ ⟨#[62]⟩) (textF (T.getD j tD)) (by rw [ByteArray.size_append]; omega)
        clear e2 e4 IH z1 z2 o3 e32 e61 e62 KD KC hzj HSZ
        generalize textF (.wrap xo xt (T.getD j tD)) = R at *
        generalize textF (T.getD j tD) = tc at *
        go_enter Tryd.func10, Tryd.ntmps10
        go_wp2_with fail
        refine (IJ.out _ HA.out).mono ?_
        rintro e w1 ⟨rfl, b⟩
        have HB1 := Lib.hid (HB0.out.trans b)
        clear b
        go_wp2
        go_ret
        exact ⟨by rw [← HR.out]; rfl, HB1.out⟩
      · have hge : (0 : Int) ≤ xt := by omega
        have HR : Hid (((((xo ++ ⟨#[32]⟩) ++ ⟨(Lib.itoa xt).toArray⟩) ++ ⟨#[62]⟩) ++ textF (T.getD j tD)) = textF (.wrap xo xt (T.getD j tD))) := by show _ = _; rw [textF]; unfold stepT one; rw [if_neg hneg]
        have c0 := add_run xo ⟨#[32]⟩ (by omega)
        have c1 := add_run (xo ++ ⟨#[32]⟩) ⟨(Lib.itoa xt).toArray⟩ (by rw [ByteArray.size_append]; omega)
        have c2 := add_run ((xo ++ ⟨#[32]⟩) ++ ⟨(Lib.itoa xt).toArray⟩) ⟨#[62]⟩ (by rw [ByteArray.size_append, ByteArray.size_append]; omega)
        have c3 := add_run (((xo ++ ⟨#[32]⟩) ++ ⟨(Lib.itoa xt).toArray⟩) ++ ⟨#[62]⟩) (textF (T.getD j tD)) (by rw [ByteArray.size_append, ByteArray.size_append, ByteArray.size_append]; omega)
        clear e2 e4 IH z1 z2 o3 e32 e61 e62 KC hzj HSZ
        generalize textF (.wrap xo xt (T.getD j tD)) = R at *
        generalize textF (T.getD j tD) = tc at *
        generalize (⟨(Lib.itoa xt).toArray⟩ : ByteArray) = tt at *
        go_enter Tryd.func10, Tryd.ntmps10
        go_wp2_with fail
        refine (KD.out _).mono ?_
        rintro e w1 ⟨rfl, b⟩
        have HB1 := Lib.hid (HB0.out.trans b)
        obtain ⟨d0, d1, d2, d3, d4, d5⟩ := HC.out w1 HB1.out
        have HA1 := Lib.hid ((HA.out.below b).mono b.size)
        clear b
        go_wp2_with fail
        refine (IJ.out _ HA1.out).mono ?_
        rintro e w2 ⟨rfl, b⟩
        have HB2 := Lib.hid (HB1.out.trans (b.mono HB1.out.size))
        clear b
        go_wp2
        go_ret
        exact ⟨by rw [← HR.out]; rfl, HB2.out⟩
    · simp only at e1 e1' e3 e3' e4
      subst e3 e3'
      rw [e4]
      have hzj := HSZ.out j e2
      have hzk := HSZ.out k e2'
      have f0 : (xd != 0) = true := by simpa using e1
      have f1 : (xd != 1) = true := by simpa using e1'
      have f0' : (xd == 0) = false := by simpa using e1
      have f1' : (xd == 1) = false := by simpa using e1'
      have IJ := Lib.hid (fun W hW => IH.out j e2 W hW)
      have IK := Lib.hid (fun W hW => IH.out k e2' W hW)
      have HR : Hid ((((((⟨#[40]⟩ : ByteArray) ++ textF (T.getD j tD)) ++ ⟨#[124]⟩) ++ textF (T.getD k tD)) ++ ⟨#[41]⟩) = textF (.both (T.getD j tD) (T.getD k tD))) := by show _ = _; rw [textF]
      have e40 : (⟨#[40]⟩ : ByteArray).size = 1 := rfl
      have e41 : (⟨#[41]⟩ : ByteArray).size = 1 := rfl
      have e124 : (⟨#[124]⟩ : ByteArray).size = 1 := rfl
      have c0 := add_run ⟨#[40]⟩ (textF (T.getD j tD)) (by omega)
      have c1 := add_run ((⟨#[40]⟩ : ByteArray) ++ textF (T.getD j tD)) ⟨#[124]⟩ (by rw [ByteArray.size_append]; omega)
      have c2 := add_run (((⟨#[40]⟩ : ByteArray) ++ textF (T.getD j tD)) ++ ⟨#[124]⟩) (textF (T.getD k tD)) (by rw [ByteArray.size_append, ByteArray.size_append]; omega)
      have c3 := add_run ((((⟨#[40]⟩ : ByteArray) ++ textF (T.getD j tD)) ++ ⟨#[124]⟩) ++ textF (T.getD k tD)) ⟨#[41]⟩ (by rw [ByteArray.size_append, ByteArray.size_append, ByteArray.size_append]; omega)
      clear e2 e2' e4 IH z1 z2 o3 e32 e61 e62 e40 e41 e124 KD KC hzj hzk HSZ
      generalize textF (.both (T.getD j tD) (T.getD k tD)) = R at *
      generalize textF (T.getD j tD) = tj at *
      generalize textF (T.getD k tD) = tk at *
      go_enter Tryd.func10, Tryd.ntmps10
      go_wp2
      have HBD : Hid (Below w.heap.size w w.drew) := (Below.refl w.heap.size w).drew
      have HX := HBD
      have HA1 : Hid (LiesN w.drew w.drew.heap.size (some ad) N) := HA.out
      obtain ⟨d0, d1, d2, d3, d4, d5⟩ := HC.out w.drew HX.out
      go_region_held3 (fun W => W.cell? ⟨(ad.add (i * 6)).block, (ad.add (i * 6)).off + 4, none⟩ = some (.int .i64 j) ∧ W.cell? ⟨(ad.add (i * 6)).block, (ad.add (i * 6)).off + 5, none⟩ = some (.int .i64 k)) (go_keep)
        (first
          | (go_at_call 10; ((with_reducible refine (IJ.out _ HA1.out).mono ?_); rintro e w5 ⟨rfl, b5⟩; have HX := Lib.hid (HX.out.trans (b5.mono HX.out.size)); have HA1 := Lib.hid ((HA1.out.below b5).mono b5.size); obtain ⟨d0, d1, d2, d3, d4, d5⟩ := HC.out _ HX.out; clear b5))
          | (go_at_call 10; ((with_reducible refine (IK.out _ HA1.out).mono ?_); rintro e w5 ⟨rfl, b5⟩; have HX := Lib.hid (HX.out.trans (b5.mono HX.out.size)); have HA1 := Lib.hid ((HA1.out.below b5).mono b5.size); obtain ⟨d0, d1, d2, d3, d4, d5⟩ := HC.out _ HX.out; clear b5)))
      all_goals
        go_wp2
        go_ret
        exact ⟨by rw [← HR.out]; rfl, HX.out⟩
end Go.Proofs.YtndofhcnjmbfeaaDoor
