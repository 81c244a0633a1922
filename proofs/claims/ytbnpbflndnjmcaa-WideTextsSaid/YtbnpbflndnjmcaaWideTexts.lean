/- Statement WideTexts: whatever the input is, the Go function returns true and each argument reads as it did. No condition. -/
import Derived.Test.YtbnpbflndnjmcaaRows
import Derived.Test.YtbnpbflndnjmcaaWideL
import Derived.Test.YtbnpbflndnjmcaaWideX
import Derived.Test.YtbnpbflndnjmcaaOpen
import Derived.ProofKit
import Derived.OpenShut
namespace Go.Proofs.Ytbnpbflndnjmcaa.wideTexts
open Go.ChangeShapes Go.WideShapes Go.ChangeAt Go.RowKit
set_option linter.unusedVariables false

theorem own : ownKnob Try.prog.godebug = none := by kernel_rfl
theorem laid : laidOutB Try.prog = true := by kernel_rfl

theorem psV_txt {h l : Int} (hh : U64 h) (hl : U64 l) : psV (txt (wv h l).toNat) = .tuple #[.agg #[.int .u64 h, .int .u64 l], .int .i64 0] := by
  have hn : 0 ≤ wv h l ∧ wv h l < 340282366920938463463374607431768211456 := by unfold wv U64 at *; omega
  have hlen := txt_len 38 (wv h l).toNat (by show _ < 10 ^ 39; omega)
  rw [psV_in (txt_isText _) hlen, dec_txt]
  have e : (((wv h l).toNat : Nat) : Int) = wv h l := by omega
  rw [e]
  have := wfV_in (n := wv h l) (h := h) (l := l) hn (by unfold wv U64 at *; omega) (by unfold wv U64 at *; omega)
  exact (Ending.returned.inj this).symm
/-- what was read has the text that was read -/
theorem text_back {s : ByteArray} (h : psE s.data.toList = 0) : txt (wv (psH s.data.toList) (psL s.data.toList)).toNat = s.data.toList ∧ U64 (psH s.data.toList) ∧ U64 (psL s.data.toList) := by
  have hT : isTextB s.data.toList = true := by
    cases hc : isTextB s.data.toList with
    | true => rfl
    | false => unfold psE at h; rw [hc] at h; simp at h
  have hl : s.data.toList.length ≤ 39 := by
    rcases Nat.lt_or_ge 39 s.data.toList.length with hc | hc
    · unfold psE at h; rw [if_pos hT, if_neg (by omega)] at h; omega
    · exact hc
  have hE : wfE (dec s.data.toList) = 0 := by unfold psE at h; rw [if_pos hT, if_pos hl] at h; exact h
  have hn : 0 ≤ dec s.data.toList ∧ dec s.data.toList < 340282366920938463463374607431768211456 := by
    unfold wfE at hE
    split at hE
    · assumption
    · omega
  have e1 : psH s.data.toList = dec s.data.toList / 18446744073709551616 := by unfold psH wfH; rw [if_pos ⟨hT, hl⟩, if_pos hn]
  have e2 : psL s.data.toList = dec s.data.toList % 18446744073709551616 := by unfold psL wfL; rw [if_pos ⟨hT, hl⟩, if_pos hn]
  rw [e1, e2, wv_split]
  exact ⟨txt_dec hT, by unfold U64; omega, by unfold U64; omega⟩

set_option maxHeartbeats 4000000 in
theorem walk (h l : Int) (hh : U64 h) (hl : U64 l) (s : ByteArray) (hs : s.size ≤ maxLen) (w : World) :
    Calls Try.prog 6 #[.agg #[.int .u64 h, .int .u64 l], .string s] w fun e w' => e = .returned (.bool true) ∧ Below w.heap.size w w' := by
  have J0 := Lib.hid ((Keeps.start w).alloc #[.int .u64 h, .int .u64 l] 24)
  by_cases h200 : 200 < s.size
  · unfold maxLen at hs
    go_enter Try.func6, Try.ntmps6
    go_wp2_with fail
    refine (lives2 _).mono ?_
    rintro e w1 ⟨rfl, b1⟩
    go_wp2
    go_ret
    exact ⟨rfl, (J0.out.below b1).2.1⟩
  · have KT := Lib.hid (fun W => wide_text h l hh hl W)
    have RT := Lib.hid (fun W => ref_text h l hh hl W)
    have hsz : (⟨(txt (wv h l).toNat).toArray⟩ : ByteArray).size ≤ maxLen := by
      have hn : 0 ≤ wv h l ∧ wv h l < 340282366920938463463374607431768211456 := by unfold wv U64 at *; omega
      have := txt_len 38 (wv h l).toNat (by show _ < 10 ^ 39; omega)
      show (txt (wv h l).toNat).toArray.size ≤ maxLen
      rw [List.size_toArray]; unfold maxLen; omega
    have KP : Hid (∀ W, Calls Try.prog 26 #[.string ⟨(txt (wv h l).toNat).toArray⟩] W fun e w' => e = .returned (.tuple #[.agg #[.int .u64 h, .int .u64 l], .int .i64 0]) ∧ Below W.heap.size W w') := fun W => by
      have := wide_parse ⟨(txt (wv h l).toNat).toArray⟩ hsz W
      rw [psV_txt hh hl] at this
      exact this
    have KS : Hid (∀ W, Calls Try.prog 26 #[.string s] W fun e w' => e = .returned (.tuple #[.agg #[.int .u64 (psH s.data.toList), .int .u64 (psL s.data.toList)], .int .i64 (psE s.data.toList)]) ∧ Below W.heap.size W w') := fun W => wide_parse s hs W
    have RS : Hid (∀ W, Calls Try.prog 27 #[.string s] W fun e w' => e = .returned (.tuple #[.agg #[.int .u64 (psH s.data.toList), .int .u64 (psL s.data.toList)], .int .i64 (psE s.data.toList)]) ∧ Below W.heap.size W w') := fun W => ref_parse s hs W
    have HB := Lib.hid (fun (he : psE s.data.toList = 0) W => (by have := wide_text (psH s.data.toList) (psL s.data.toList) (text_back he).2.1 (text_back he).2.2 W; rw [(text_back he).1] at this; exact this : Calls Try.prog 25 #[.agg #[.int .u64 (psH s.data.toList), .int .u64 (psL s.data.toList)]] W fun e w' => e = .returned (.string s) ∧ Below W.heap.size W w'))
    clear hsz
    generalize (⟨(txt (wv h l).toNat).toArray⟩ : ByteArray) = T at *
    generalize psH s.data.toList = ph at *
    generalize psL s.data.toList = pl at *
    generalize psE s.data.toList = pe at *
    unfold maxLen at hs
    have q1 : (h == h) = true := by simp
    have q2 : (l == l) = true := by simp
    have q3 : (ph == ph) = true := by simp
    have q4 : (pl == pl) = true := by simp
    have q5 : (pe == pe) = true := by simp
    by_cases hpe : pe = 0
    all_goals
      go_enter Try.func6, Try.ntmps6
      go_wp2_with fail
      refine (KT.out _).mono ?_
      rintro e w1 ⟨rfl, b1⟩
      have J := Lib.hid (J0.out.below b1)
      clear b1
      go_wp2_with fail
      refine (KP.out _).mono ?_
      rintro e w1 ⟨rfl, b1⟩
      have J := Lib.hid ((J.out.below b1).alloc #[.int .u64 h, .int .u64 l] 24)
      clear b1
      go_wp2_with fail
      refine (KS.out _).mono ?_
      rintro e w1 ⟨rfl, b1⟩
      have J := Lib.hid ((J.out.below b1).alloc #[.int .u64 ph, .int .u64 pl] 24)
      clear b1
      go_wp2_with fail
      refine (RS.out _).mono ?_
      rintro e w1 ⟨rfl, b1⟩
      have J := Lib.hid ((J.out.below b1).alloc #[.int .u64 ph, .int .u64 pl] 24)
      clear b1
      obtain ⟨x0, x1, _, _⟩ := J.out.tail.tail.tail.head.two
      obtain ⟨y0, y1, _, _⟩ := J.out.tail.tail.head.two
      obtain ⟨z0, z1, _, _⟩ := J.out.tail.head.two
      obtain ⟨u0, u1, _, _⟩ := J.out.head.two
      go_wp2_with fail
      refine (RT.out _).mono ?_
      rintro e w1 ⟨rfl, b1⟩
      have J := Lib.hid (J.out.below b1)
      clear b1
      obtain ⟨x0, x1, _, _⟩ := J.out.tail.tail.tail.head.two
      obtain ⟨y0, y1, _, _⟩ := J.out.tail.tail.head.two
      obtain ⟨z0, z1, _, _⟩ := J.out.tail.head.two
      obtain ⟨u0, u1, _, _⟩ := J.out.head.two
      go_wp2_with fail
    · refine (HB.out hpe _).mono ?_
      rintro e w1 ⟨rfl, b1⟩
      have J := Lib.hid (J.out.below b1)
      clear b1
      go_wp2_with fail
      refine (lives2 _).mono ?_
      rintro e w1 ⟨rfl, b1⟩
      go_wp2
      go_ret
      exact ⟨rfl, (J.out.below b1).2.1⟩
    · refine (lives2 _).mono ?_
      rintro e w1 ⟨rfl, b1⟩
      go_wp2
      go_ret
      exact ⟨rfl, (J.out.below b1).2.1⟩

set_option maxRecDepth 100000 in
theorem lifted (os : Os) (started : os.Started) (H : Type) (enc : TypeId × Value → H) :
    ReturnsInHanded {} Try.checked os 6 .any (Rows.wideTextsSpec.pre6 enc Try.prog Try.f6 Rows.wideTextsRow.domain false) (Rows.wideTextsSpec.post enc Try.prog Try.f6 false true false false) := by
  refine returnsInHanded_of_change (C := Try.checked) own started (by kernel_rfl) Try.func6
    (ChangeSpec.witness6 (enc := enc) (C := Try.checked) false ⟨#[], #[.agg #[.int .u64 0, .int .u64 0], .string ⟨#[]⟩], []⟩ 8 (by kernel_rfl) (by kernel_rfl) (by kernel_rfl) (by kernel_rfl)) ?_
  intro W base args ds gs before hval0 hW hcnd _
  have hval : ∀ (j : Nat) t v, Try.f6.params[j]? = some t → args[j]? = some v → Value.okWide Try.prog W .any base t v := hval0
  have hW' := hW
  obtain ⟨p, q, hA0, hV, rfl, hfz, hnd⟩ := hW
  obtain ⟨rfl, rfl⟩ := trodVars_none hV
  have hA : DataW.TrodAll enc Try.prog W 0 (fun _ => true) true Try.f6.params.toList args.toList ds p := hA0
  rw [Try.params6] at hA hval
  obtain ⟨v0, vs0, d0, ds0, p0, q0, hargs, rfl, rfl, h0, r0⟩ := trodAll_cons hA
  obtain ⟨v1, vs1, d1, ds1, p1, q1, rfl, rfl, rfl, h1, r1⟩ := trodAll_cons r0
  obtain ⟨rfl, rfl, rfl⟩ := trodAll_nil r1
  obtain rfl : args = #[v0, v1] := by cases args; simp_all
  obtain ⟨a0, b0, rfl, w0, z0⟩ := open_two Try.underlying24 Try.underlying22 Try.underlying22 (by kernel_rfl) (by kernel_rfl) (hval 0 24 v0 rfl rfl) h0
  obtain ⟨s1, rfl, _, _, z1⟩ := Go.ChangeMaps.open_string Try.underlying9 (hval 1 9 v1 rfl rfl) h1
  refine (walk a0 b0 (u64_of_wf w0) (u64_of_wf z0) s1 z1 W).mono fun e W' ⟨he, hg⟩ => ?_
  subst he
  exact ⟨_, rfl, law_post laid (by rw [Try.params6]; exact (by decide +kernel)) rfl (by kernel_rfl) Try.underlying4 rfl hW' hg⟩

theorem over : Rows.wideTextsRow.holds Try.pinned (OpenSpec.ofChange Rows.wideTextsSpec) :=
  OpenClaim.holds_of_wide 6 Try.f6 rfl rfl rfl rfl rfl rfl rfl ⟨rfl, rfl, rfl, rfl, rfl⟩ rfl rfl rfl rfl rfl (by kernel_rfl) Try.func6 (by kernel_rfl)
    (of_decide_eq_true (by kernel_rfl)) (by unfold Func.isWrapper; first | (rw [if_pos (by decide +kernel)]; kernel_rfl) | (rw [if_neg (by decide +kernel)]; exact ⟨rfl, rfl⟩))
    (fun os started H enc _ => lifted os started H enc)
theorem proved : Rows.WideTextsSaid := over
end Go.Proofs.Ytbnpbflndnjmcaa.wideTexts
