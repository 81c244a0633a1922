/- Statement BinPuts: whatever the input is, the Go function returns true and each argument reads as it did. No condition. -/
import Derived.Test.YtdcemcpcjdkpjaaRows
import Derived.Test.YtdcemcpcjdkpjaaBinP
import Derived.Test.YtdcemcpcjdkpjaaVecT
import Derived.Test.YtdcemcpcjdkpjaaBase
import Derived.ProofKit
import Derived.OpenShut
import Derived.IntWalk
namespace Go.Proofs.Ytdcemcpcjdkpjaa.binPuts
open Go.ChangeShapes Go.WideShapes Go.ChangeAt Go.RowKit
set_option linter.unusedVariables false

theorem own : ownKnob Try.prog.godebug = none := by kernel_rfl
theorem laid : laidOutB Try.prog = true := by kernel_rfl

def GivesV (l : List Int) (W : World) (e : Ending) (w' : World) : Prop := (∃ v, e = .returned v ∧ OwnsY w' W.heap.size v l) ∧ Below W.heap.size W w'
set_option maxRecDepth 2000000 in
set_option maxHeartbeats 32000000 in
theorem walk (A : Option Addr) (b : List Int) (c : Nat) {w : World} (hA : LiesY w w.heap.size A b) (hb : byt b) (hbc : b.length ≤ c) (hc : c ≤ 9223372036854775807) (hAc : A = none → c = 0) (n0 : Int) (hn0 : U64 n0) (i : Int) (hi : I64 i)
    (A3 : Option Addr) (s : List Int) (c3 : Nat) (hS : LiesY w w.heap.size A3 s) (hsb : byt s) (hsc : s.length ≤ c3) (hsm : c3 ≤ 9223372036854775807) (hSc : A3 = none → c3 = 0)
    (A4 : Option Addr) (l : List Int) (c4 : Nat) (hL : Lies w w.heap.size A4 l) (hli : ∀ x ∈ l, I64 x) (hlc : l.length ≤ c4) (hlm : c4 ≤ 9223372036854775807) (_ : World) :
    Calls Try.prog 9 #[.slice A b.length c, .int .u64 n0, .int .i64 i, .slice A3 s.length c3, .slice A4 l.length c4] w fun e w' => e = .returned (.bool true) ∧ Below w.heap.size w w' := by
  obtain ⟨n, rfl⟩ : ∃ n : Nat, n0 = (n : Int) := ⟨n0.toNat, by unfold U64 at hn0; omega⟩
  have hn : n < 18446744073709551616 := by unfold U64 at hn0; omega
  clear hn0
  by_cases hx : 300 < b.length
  · have g1 : (300 : Int) < (b.length : Int) := by omega
    clear hx
    clear hA hb hAc hS hsb hSc hL hli hi hn
    generalize b.length = N at *
    generalize s.length = S at *
    generalize l.length = T at *
    go_enter Try.func9, Try.ntmps9
    go_wp2_with fail
    refine (lives21 _).mono ?_
    rintro e wl ⟨rfl, bl⟩
    have HB := Lib.hid bl
    clear bl
    go_wp2
    go_ret
    exact ⟨rfl, HB.out⟩
  by_cases hy : 600 < s.length
  · have g1 : ¬ (300 : Int) < (b.length : Int) := by omega
    have g2 : (600 : Int) < (s.length : Int) := by omega
    clear hx hy
    clear hA hb hAc hS hsb hSc hL hli hi hn
    generalize b.length = N at *
    generalize s.length = S at *
    generalize l.length = T at *
    go_enter Try.func9, Try.ntmps9
    go_wp2_with fail
    refine (lives21 _).mono ?_
    rintro e wl ⟨rfl, bl⟩
    have HB := Lib.hid bl
    clear bl
    go_wp2
    go_ret
    exact ⟨rfl, HB.out⟩
  by_cases hz : 300 < l.length
  · have g1 : ¬ (300 : Int) < (b.length : Int) := by omega
    have g2 : ¬ (600 : Int) < (s.length : Int) := by omega
    have g3 : (300 : Int) < (l.length : Int) := by omega
    clear hx hy hz
    clear hA hb hAc hS hsb hSc hL hli hi hn
    generalize b.length = N at *
    generalize s.length = S at *
    generalize l.length = T at *
    go_enter Try.func9, Try.ntmps9
    go_wp2_with fail
    refine (lives21 _).mono ?_
    rintro e wl ⟨rfl, bl⟩
    have HB := Lib.hid bl
    clear bl
    go_wp2
    go_ret
    exact ⟨rfl, HB.out⟩
  have g1 : ¬ (300 : Int) < (b.length : Int) := by omega
  have g2 : ¬ (600 : Int) < (s.length : Int) := by omega
  have g3 : ¬ (300 : Int) < (l.length : Int) := by omega
  have hx' : b.length ≤ 300 := by omega
  have hy' : s.length ≤ 600 := by omega
  have hz' : l.length ≤ 300 := by omega
  have lu := (uB_len hn).2
  have li : (iB i).length ≤ 9 := (uB_len (fold_bd hi)).2
  have lt := len_tB s hy'
  have ll := len_lB l hz' hli
  have KU : Hid (∀ X, LiesY X X.heap.size A b → Calls Try.prog 50 #[.slice A b.length c, .int .u64 (n : Nat)] X (GivesY (b ++ uB n) X)) := fun X h => bin_U b A c n X h hbc (by omega) hn
  have KI : Hid (∀ X, LiesY X X.heap.size A b → Calls Try.prog 52 #[.slice A b.length c, .int .i64 i] X (GivesY (b ++ iB i) X)) := fun X h => bin_I b A c i X h hbc (by omega) hi
  have KT : Hid (∀ X, LiesY X X.heap.size A b → LiesY X X.heap.size A3 s → Calls Try.prog 54 #[.slice A b.length c, .slice A3 s.length c3] X (GivesY (b ++ tB s) X)) := fun X h h2 => bin_Text b A c s A3 c3 X h hbc (by omega) h2 (by omega)
  have KL : Hid (∀ X, LiesY X X.heap.size A b → Lies X X.heap.size A4 l → Calls Try.prog 56 #[.slice A b.length c, .slice A4 l.length c4] X (GivesY (b ++ lB l) X)) := fun X h h2 => bin_Ints b A c l A4 c4 X h hbc (by omega) h2 (by omega) hli
  have RU : Hid (∀ X, Calls Try.prog 51 #[.int .u64 (n : Nat)] X (GivesY (uB n) X)) := fun X => ref_UY n X hn
  have RI : Hid (∀ X, Calls Try.prog 53 #[.int .i64 i] X (GivesY (iB i) X)) := fun X => ref_IY i X hi
  have RT : Hid (∀ X, LiesY X X.heap.size A3 s → Calls Try.prog 55 #[.slice A3 s.length c3] X (GivesY (tB s) X)) := fun X h => ref_TY s A3 c3 X h hSc (by omega)
  have RL : Hid (∀ X, Lies X X.heap.size A4 l → Calls Try.prog 57 #[.slice A4 l.length c4] X (GivesY (lB l) X)) := fun X h => ref_LY l A4 c4 X h (by omega) hli
  have FU : Hid (∀ X, Calls Try.prog 50 #[.slice none 0 0, .int .u64 (n : Nat)] X (GivesY ([] ++ uB n) X)) := fun X => bin_U [] none 0 n X LiesY.nil (by simp) (by simp) hn
  have FI : Hid (∀ X A c, LiesY X X.heap.size A ([] ++ uB n) → ([] ++ uB n).length ≤ c → Calls Try.prog 52 #[.slice A ([] ++ uB n).length c, .int .i64 i] X (GivesY (([] ++ uB n) ++ iB i) X)) := fun X A c h1 h2 => bin_I _ A c i X h1 h2 (by simp; omega) hi
  have FT : Hid (∀ X A c, LiesY X X.heap.size A (([] ++ uB n) ++ iB i) → (([] ++ uB n) ++ iB i).length ≤ c → LiesY X X.heap.size A3 s → Calls Try.prog 54 #[.slice A (([] ++ uB n) ++ iB i).length c, .slice A3 s.length c3] X (GivesY ((([] ++ uB n) ++ iB i) ++ tB s) X)) := fun X A c h1 h2 h3 => bin_Text _ A c s A3 c3 X h1 h2 (by simp; omega) h3 (by omega)
  obtain ⟨Z, hZ⟩ : ∃ Z, Z = ((([] ++ uB n) ++ iB i) ++ tB s) ++ lB l := ⟨_, rfl⟩
  have hZl : Z.length ≤ 1000000 := by rw [hZ]; simp; omega
  have hZb : byt Z := by rw [hZ]; exact (((byt.nil.append (uB_byt hn)).append (iB_byt hi)).append (tB_byt hsb (by omega))).append (lB_byt hli (by omega))
  have FL : Hid (∀ X A c, LiesY X X.heap.size A ((([] ++ uB n) ++ iB i) ++ tB s) → ((([] ++ uB n) ++ iB i) ++ tB s).length ≤ c → Lies X X.heap.size A4 l → Calls Try.prog 56 #[.slice A ((([] ++ uB n) ++ iB i) ++ tB s).length c, .slice A4 l.length c4] X (GivesY Z X)) := fun X A c h1 h2 h3 => by
    rw [hZ]
    exact bin_Ints _ A c l A4 c4 X h1 h2 (by simp; omega) h3 (by omega) hli
  have FF : Hid (∀ X A c, LiesY X X.heap.size A Z → (A = none → c = 0) → Calls Try.prog 58 #[.slice A Z.length c] X fun e w' => (∃ g, e = .returned (.pointer (some ⟨g, 0, none⟩)) ∧ RdAt w' X.heap.size g Z 0 0) ∧ Below X.heap.size X w') := fun X A c h1 h2 => bin_From Z A c X h1 h2 hZl hZb
  obtain ⟨a1, a2, a3, P1, P2, P3, P4⟩ := rback n i s l hn hi hy' hz' hli Z hZ
  have D1 : Hid (∀ X B g, RdAt X B g Z 0 0 → Calls Try.prog 59 #[.pointer (some ⟨g, 0, none⟩)] X fun e w' => e = .returned (.int .u64 (n : Nat)) ∧ RdAt w' B g Z a1 0 ∧ Wr g X w') := fun X B g h => by
    have := rd_U h
    rw [P1] at this
    exact this
  have D2 : Hid (∀ X B g, RdAt X B g Z a1 0 → Calls Try.prog 60 #[.pointer (some ⟨g, 0, none⟩)] X fun e w' => e = .returned (.int .i64 i) ∧ RdAt w' B g Z a2 0 ∧ Wr g X w') := fun X B g h => by
    have := rd_I h
    rw [P2] at this
    simp only [unfold_fold] at this
    exact this
  have D3 : Hid (∀ X B g, RdAt X B g Z a2 0 → Calls Try.prog 61 #[.pointer (some ⟨g, 0, none⟩), .int .i64 (s.length : Nat)] X fun e w' => ∃ A c, e = .returned (.slice A s.length c) ∧ OwnsY w' X.heap.size (.slice A s.length c) s ∧ RdAt w' B g Z a3 0 ∧ Wr g X w') := fun X B g h => by
    have := rd_Text (s.length : Nat) (by unfold I64; omega) h
    rw [P3] at this
    exact this
  have D4 : Hid (∀ X B g, RdAt X B g Z a3 0 → Calls Try.prog 62 #[.pointer (some ⟨g, 0, none⟩), .int .i64 (l.length : Nat)] X fun e w' => ∃ A c, e = .returned (.slice A l.length c) ∧ w'.ownsRow X.heap.size 3 1 (.slice A l.length c) l.length (litI l) ∧ RdAt w' B g Z Z.length 0 ∧ Wr g X w') := fun X B g h => by
    have := rd_Ints (l.length : Nat) (by unfold I64; omega) h
    rw [P4] at this
    exact this
  have D5 : Hid (∀ X B g, RdAt X B g Z Z.length 0 → Calls Try.prog 63 #[.pointer (some ⟨g, 0, none⟩)] X fun e w' => e = .returned (.tuple #[]) ∧ RdAt w' B g Z Z.length 0 ∧ Wr g X w') := fun X B g h => by
    have := rd_End h
    rw [show endE Z Z.length 0 = 0 from by unfold endE; rw [if_neg (Nat.lt_irrefl _)]] at this
    exact this
  have D6 : Hid (∀ X B g, RdAt X B g Z Z.length 0 → Calls Try.prog 66 #[.pointer (some ⟨g, 0, none⟩)] X fun e w' => e = .returned (.int .i64 0) ∧ Below X.heap.size X w') := fun X B g h => by
    have := rd_Left h
    rw [Nat.sub_self] at this
    exact this.mono fun e w' h => ⟨h.1, by obtain ⟨n, rfl⟩ := h.2; exact below_drewN2 (Below.refl _ _) n⟩
  have D7 := Lib.hid (fun X B g (h : RdAt X B g Z Z.length 0) => rd_Err h)
  have CI : Hid (∀ X A c, Lies X X.heap.size A l → Lies X X.heap.size A4 l → Calls Try.prog 64 #[.slice A l.length c, .slice A4 l.length c4] X fun e w' => e = .returned (.bool true) ∧ Below X.heap.size X w') := fun X A c h1 h2 => by
    have := ref_same1 A A4 l l c c4 X.heap.size X h1 h2 (by omega) (by omega)
    rw [decide_eq_true rfl] at this
    exact this.mono fun e w' h => ⟨h.1, by obtain ⟨n, rfl⟩ := h.2; exact below_drewN2 (Below.refl _ _) n⟩
  have CS := Lib.hid ref_SameV
  have HLU : Hid ((uB n).length ≤ 9) := lu
  have HLI : Hid ((iB i).length ≤ 9) := li
  have HLT : Hid ((tB s).length ≤ 609) := lt
  have HLL : Hid ((lB l).length ≤ 2709) := ll
  have HA0 := Lib.hid hA
  have HS0 := Lib.hid hS
  have HL0 := Lib.hid hL
  have HAc := Lib.hid hAc
  have HSc := Lib.hid hSc
  have HB : Hid (Below w.heap.size w w) := Below.refl _ _
  have HIA : Hid (∀ X, Below w.heap.size w X → LiesY X X.heap.size A b) := fun X h => (hA.below h).mono h.size
  have HIS : Hid (∀ X, Below w.heap.size w X → LiesY X X.heap.size A3 s) := fun X h => (hS.below h).mono h.size
  have HIL : Hid (∀ X, Below w.heap.size w X → Lies X X.heap.size A4 l) := fun X h => (hL.below h).mono h.size
  clear hx hy hz hx' hy' hz' lu li lt ll hZ hZl hZb P1 P2 P3 P4 hA hS hL hAc hSc hli hsb hb hn hi
  generalize uB n = XU at *
  generalize iB i = XI at *
  generalize tB s = XT at *
  generalize lB l = XL at *
  generalize hY1 : ([] : List Int) ++ XU = Y1 at *
  generalize hY2 : Y1 ++ XI = Y2 at *
  generalize hY3 : Y2 ++ XT = Y3 at *
  clear hY1 hY2 hY3
  unfold GivesY at KU KI KT KL RU RI RT RL FU FI FT FL
  generalize hN : b.length = N at *
  have HN := Lib.hid hN
  generalize hSl : s.length = S at *
  have HSl := Lib.hid hSl
  generalize hTl : l.length = T at *
  have HTl := Lib.hid hTl
  generalize hZl : Z.length = ZL at *
  have HZl := Lib.hid hZl
  clear hN hSl hTl hZl
  go_enter Try.func9, Try.ntmps9
  go_wp2_with (at_builtin; refine app_newG (B := w.heap.size) rfl (.tmp 31) (.tmp 32) rfl b A c N rfl rfl HN.out HAc.out (HIA.out _ HB.out) (Nat.le_refl _) (Nat.le_refl _) (by omega) ?_; intro vk xk h1 h2; obtain ⟨Ak, ck, ek, -, -, gl, gn, -⟩ := OwnsY.lies h1; rw [HN.out] at ek; subst ek; have HK := Lib.hid gl; have HKn := Lib.hid gn; have HB := Lib.hid h2; clear h1 h2 gn gl)
  go_wp2_with fail
  refine (KU.out _ (HIA.out _ HB.out)).mono ?_
  rintro e x1U ⟨⟨v1U, rfl, h1⟩, h2⟩
  obtain ⟨A1U, c1U, e1, -, -, g3, -, -⟩ := h1.lies
  have HEU := Lib.hid e1
  have HV := Lib.hid g3
  have HK := Lib.hid (HK.out.up h2)
  have HB := Lib.hid (HB.out.trans (h2.mono HB.out.size))
  clear h1 h2 e1 g3
  go_wp2_with (at_builtin; refine app_newG (B := x1U.heap.size) rfl (.tmp 37) (.tmp 38) rfl b Ak ck N rfl rfl HN.out HKn.out HK.out (Nat.le_refl _) (Nat.le_refl _) (by omega) ?_; intro v2U x2U h1 h2; have HO := Lib.hid h1; have HX := Lib.hid h2; have HBx := Lib.hid (HB.out.trans (h2.mono HB.out.size)); clear h1 h2)
  refine (RU.out _).mono ?_
  rintro e x3U ⟨⟨v3U, rfl, h1⟩, h2⟩
  obtain ⟨A5U, c5U, e5, -, -, g3, g4, -⟩ := h1.lies
  subst e5
  have HR := Lib.hid g3
  have HRn := Lib.hid g4
  have HO := Lib.hid (HO.out.below h2)
  have HX := Lib.hid (HX.out.trans (h2.mono HX.out.size))
  clear h1 h2 g3 g4 HBx
  go_wp2_with (at_builtin; refine app_ownG (B := x1U.heap.size) rfl (.tmp 39) (.tmp 41) rfl _ _ XU A5U c5U _ rfl rfl rfl HRn.out HO.out HR.out HX.out.size (by have := HLU.out; have := HN.out; omega) ?_; intro v4U x4U h1 h2; have HO := Lib.hid h1; have HX := Lib.hid (HX.out.trans h2); clear h1 h2)
  have HV := Lib.hid ((HV.out.below HX.out).mono HX.out.size)
  have HK := Lib.hid ((HK.out.below HX.out).mono HX.out.size)
  have HB := Lib.hid (HB.out.trans (HX.out.mono HB.out.size))
  refine (CS.out _ _ _ _ ⟨A1U, c1U, HEU.out, HV.out⟩ HO.out.is).mono ?_
  rintro e wq ⟨rfl, rfl⟩
  clear HX HV HO HR HRn HEU
  go_wp2_with fail
  refine (KI.out _ (HIA.out _ HB.out)).mono ?_
  rintro e x1I ⟨⟨v1I, rfl, h1⟩, h2⟩
  obtain ⟨A1I, c1I, e1, -, -, g3, -, -⟩ := h1.lies
  have HEI := Lib.hid e1
  have HV := Lib.hid g3
  have HK := Lib.hid (HK.out.up h2)
  have HB := Lib.hid (HB.out.trans (h2.mono HB.out.size))
  clear h1 h2 e1 g3
  go_wp2_with (at_builtin; refine app_newG (B := x1I.heap.size) rfl (.tmp 49) (.tmp 50) rfl b Ak ck N rfl rfl HN.out HKn.out HK.out (Nat.le_refl _) (Nat.le_refl _) (by omega) ?_; intro v2I x2I h1 h2; have HO := Lib.hid h1; have HX := Lib.hid h2; have HBx := Lib.hid (HB.out.trans (h2.mono HB.out.size)); clear h1 h2)
  refine (RI.out _).mono ?_
  rintro e x3I ⟨⟨v3I, rfl, h1⟩, h2⟩
  obtain ⟨A5I, c5I, e5, -, -, g3, g4, -⟩ := h1.lies
  subst e5
  have HR := Lib.hid g3
  have HRn := Lib.hid g4
  have HO := Lib.hid (HO.out.below h2)
  have HX := Lib.hid (HX.out.trans (h2.mono HX.out.size))
  clear h1 h2 g3 g4 HBx
  go_wp2_with (at_builtin; refine app_ownG (B := x1I.heap.size) rfl (.tmp 51) (.tmp 53) rfl _ _ XI A5I c5I _ rfl rfl rfl HRn.out HO.out HR.out HX.out.size (by have := HLI.out; have := HN.out; omega) ?_; intro v4I x4I h1 h2; have HO := Lib.hid h1; have HX := Lib.hid (HX.out.trans h2); clear h1 h2)
  have HV := Lib.hid ((HV.out.below HX.out).mono HX.out.size)
  have HK := Lib.hid ((HK.out.below HX.out).mono HX.out.size)
  have HB := Lib.hid (HB.out.trans (HX.out.mono HB.out.size))
  refine (CS.out _ _ _ _ ⟨A1I, c1I, HEI.out, HV.out⟩ HO.out.is).mono ?_
  rintro e wq ⟨rfl, rfl⟩
  clear HX HV HO HR HRn HEI
  go_wp2_with fail
  refine (KT.out _ (HIA.out _ HB.out) (HIS.out _ HB.out)).mono ?_
  rintro e x1T ⟨⟨v1T, rfl, h1⟩, h2⟩
  obtain ⟨A1T, c1T, e1, -, -, g3, -, -⟩ := h1.lies
  have HET := Lib.hid e1
  have HV := Lib.hid g3
  have HK := Lib.hid (HK.out.up h2)
  have HB := Lib.hid (HB.out.trans (h2.mono HB.out.size))
  clear h1 h2 e1 g3
  go_wp2_with (at_builtin; refine app_newG (B := x1T.heap.size) rfl (.tmp 62) (.tmp 63) rfl b Ak ck N rfl rfl HN.out HKn.out HK.out (Nat.le_refl _) (Nat.le_refl _) (by omega) ?_; intro v2T x2T h1 h2; have HO := Lib.hid h1; have HX := Lib.hid h2; have HBx := Lib.hid (HB.out.trans (h2.mono HB.out.size)); clear h1 h2)
  refine (RT.out _ (HIS.out _ HBx.out)).mono ?_
  rintro e x3T ⟨⟨v3T, rfl, h1⟩, h2⟩
  obtain ⟨A5T, c5T, e5, -, -, g3, g4, -⟩ := h1.lies
  subst e5
  have HR := Lib.hid g3
  have HRn := Lib.hid g4
  have HO := Lib.hid (HO.out.below h2)
  have HX := Lib.hid (HX.out.trans (h2.mono HX.out.size))
  clear h1 h2 g3 g4 HBx
  go_wp2_with (at_builtin; refine app_ownG (B := x1T.heap.size) rfl (.tmp 64) (.tmp 66) rfl _ _ XT A5T c5T _ rfl rfl rfl HRn.out HO.out HR.out HX.out.size (by have := HLT.out; have := HN.out; omega) ?_; intro v4T x4T h1 h2; have HO := Lib.hid h1; have HX := Lib.hid (HX.out.trans h2); clear h1 h2)
  have HV := Lib.hid ((HV.out.below HX.out).mono HX.out.size)
  have HK := Lib.hid ((HK.out.below HX.out).mono HX.out.size)
  have HB := Lib.hid (HB.out.trans (HX.out.mono HB.out.size))
  refine (CS.out _ _ _ _ ⟨A1T, c1T, HET.out, HV.out⟩ HO.out.is).mono ?_
  rintro e wq ⟨rfl, rfl⟩
  clear HX HV HO HR HRn HET
  go_wp2_with fail
  refine (KL.out _ (HIA.out _ HB.out) (HIL.out _ HB.out)).mono ?_
  rintro e x1L ⟨⟨v1L, rfl, h1⟩, h2⟩
  obtain ⟨A1L, c1L, e1, -, -, g3, -, -⟩ := h1.lies
  have HEL := Lib.hid e1
  have HV := Lib.hid g3
  have HK := Lib.hid (HK.out.up h2)
  have HB := Lib.hid (HB.out.trans (h2.mono HB.out.size))
  clear h1 h2 e1 g3
  go_wp2_with (at_builtin; refine app_newG (B := x1L.heap.size) rfl (.tmp 75) (.tmp 76) rfl b Ak ck N rfl rfl HN.out HKn.out HK.out (Nat.le_refl _) (Nat.le_refl _) (by omega) ?_; intro v2L x2L h1 h2; have HO := Lib.hid h1; have HX := Lib.hid h2; have HBx := Lib.hid (HB.out.trans (h2.mono HB.out.size)); clear h1 h2)
  refine (RL.out _ (HIL.out _ HBx.out)).mono ?_
  rintro e x3L ⟨⟨v3L, rfl, h1⟩, h2⟩
  obtain ⟨A5L, c5L, e5, -, -, g3, g4, -⟩ := h1.lies
  subst e5
  have HR := Lib.hid g3
  have HRn := Lib.hid g4
  have HO := Lib.hid (HO.out.below h2)
  have HX := Lib.hid (HX.out.trans (h2.mono HX.out.size))
  clear h1 h2 g3 g4 HBx
  go_wp2_with (at_builtin; refine app_ownG (B := x1L.heap.size) rfl (.tmp 77) (.tmp 79) rfl _ _ XL A5L c5L _ rfl rfl rfl HRn.out HO.out HR.out HX.out.size (by have := HLL.out; have := HN.out; omega) ?_; intro v4L x4L h1 h2; have HO := Lib.hid h1; have HX := Lib.hid (HX.out.trans h2); clear h1 h2)
  have HV := Lib.hid ((HV.out.below HX.out).mono HX.out.size)
  have HK := Lib.hid ((HK.out.below HX.out).mono HX.out.size)
  have HB := Lib.hid (HB.out.trans (HX.out.mono HB.out.size))
  refine (CS.out _ _ _ _ ⟨A1L, c1L, HEL.out, HV.out⟩ HO.out.is).mono ?_
  rintro e wq ⟨rfl, rfl⟩
  clear HX HV HO HR HRn HEL
  go_wp2_with fail
  refine (CS.out b _ _ _ ⟨A, c, by rw [HN.out], HIA.out _ HB.out⟩ ⟨Ak, ck, by rw [HN.out], HK.out⟩).mono ?_
  rintro e wq ⟨rfl, rfl⟩
  clear HK HKn KU KI KT KL RU RI RT RL HIA
  go_wp2_with fail
  refine (FU.out _).mono ?_
  rintro e y1 ⟨⟨v, rfl, h1⟩, h2⟩
  obtain ⟨B1, d1, rfl, q1, -, q3, -, -⟩ := h1.lies
  have K := Lib.hid (FI.out y1 B1 d1 q3 q1)
  have HB := Lib.hid (HB.out.trans (h2.mono HB.out.size))
  clear h1 h2 q1 q3 FU FI
  generalize Y1.length = L1 at *
  go_wp2_with fail
  refine (K.out).mono ?_
  rintro e y2 ⟨⟨v, rfl, h1⟩, h2⟩
  obtain ⟨B2, d2, rfl, q1, -, q3, -, -⟩ := h1.lies
  have HB := Lib.hid (HB.out.trans (h2.mono HB.out.size))
  have K := Lib.hid (FT.out y2 B2 d2 q3 q1 (HIS.out _ HB.out))
  clear h1 h2 q1 q3 FT
  generalize Y2.length = L2 at *
  go_wp2_with fail
  refine (K.out).mono ?_
  rintro e y3 ⟨⟨v, rfl, h1⟩, h2⟩
  obtain ⟨B3, d3, rfl, q1, -, q3, -, -⟩ := h1.lies
  have HB := Lib.hid (HB.out.trans (h2.mono HB.out.size))
  have K := Lib.hid (FL.out y3 B3 d3 q3 q1 (HIL.out _ HB.out))
  clear h1 h2 q1 q3 FL
  generalize Y3.length = L3 at *
  go_wp2_with fail
  refine (K.out).mono ?_
  rintro e y4 ⟨⟨v, rfl, h1⟩, h2⟩
  obtain ⟨B4, d4, e4, -, -, q3, q4, -⟩ := h1.lies
  rw [HZl.out] at e4
  subst e4
  have HB := Lib.hid (HB.out.trans (h2.mono HB.out.size))
  have K := Lib.hid (FF.out y4 B4 d4 q3 q4)
  clear h1 h2 q3 q4 FF
  go_wp2_with fail
  refine (K.out).mono ?_
  rintro e y5 ⟨⟨g, rfl, h1⟩, h2⟩
  have R := Lib.hid h1
  have G : Hid (y4.heap.size ≤ g ∧ w.heap.size ≤ y4.heap.size) := ⟨h1.lt.2.1, HB.out.size⟩
  have HB := Lib.hid (HB.out.trans (h2.mono HB.out.size))
  clear h1 h2 K
  go_wp2_with fail
  refine (D1.out _ _ _ R.out).mono ?_
  rintro e z1 ⟨rfl, h1, h2⟩
  have HB := Lib.hid (HB.out.trans (h2.low (Nat.le_trans G.out.2 G.out.1) HB.out.size))
  have R := Lib.hid h1
  clear h1 h2
  go_wp2_with fail
  refine (D2.out _ _ _ R.out).mono ?_
  rintro e z2 ⟨rfl, h1, h2⟩
  have HB := Lib.hid (HB.out.trans (h2.low (Nat.le_trans G.out.2 G.out.1) HB.out.size))
  have R := Lib.hid h1
  clear h1 h2
  go_wp2_with fail
  refine (D3.out _ _ _ R.out).mono ?_
  rintro e z3 ⟨A7, c7, rfl, h0, h1, h2⟩
  have HT := Lib.hid h0
  have hgt : Hid (g < z2.heap.size) := R.out.lt.1
  have HB := Lib.hid (HB.out.trans (h2.low (Nat.le_trans G.out.2 G.out.1) HB.out.size))
  have R := Lib.hid h1
  clear h0 h1 h2
  go_wp2_with fail
  refine (D4.out _ _ _ R.out).mono ?_
  rintro e z4 ⟨A8, c8, rfl, h0, h1, h2⟩
  have HI : Hid (z4.ownsRow z3.heap.size 3 1 (.slice A8 T c8) l.length (litI l)) := by rw [HTl.out]; exact h0
  have hgi : Hid (g < z3.heap.size) := R.out.lt.1
  have HT := Lib.hid (HT.out.wr h2 hgt.out)
  have HB := Lib.hid (HB.out.trans (h2.low (Nat.le_trans G.out.2 G.out.1) HB.out.size))
  have R := Lib.hid h1
  clear h0 h1 h2
  go_wp2_with fail
  refine (D5.out _ _ _ R.out).mono ?_
  rintro e z5 ⟨rfl, h1, h2⟩
  have HI := Lib.hid (ownI_wr HI.out h2 hgi.out)
  have HT := Lib.hid (HT.out.wr h2 hgt.out)
  have HB := Lib.hid (HB.out.trans (h2.low (Nat.le_trans G.out.2 G.out.1) HB.out.size))
  have R := Lib.hid h1
  clear h1 h2
  obtain ⟨A8', c8', e8, -, -, g9⟩ := lies_ownI HI.out
  rw [HTl.out] at e8
  cases e8
  have HLI := Lib.hid g9
  clear g9 HI
  go_wp2_with fail
  refine (CS.out s _ _ _ HT.out.is ⟨A3, c3, by rw [HSl.out], HIS.out _ HB.out⟩).mono ?_
  rintro e wq ⟨rfl, rfl⟩
  go_wp2_with fail
  refine (CI.out _ _ _ HLI.out (HIL.out _ HB.out)).mono ?_
  rintro e z6 ⟨rfl, hb⟩
  have R := Lib.hid (R.out.below hb)
  have HB := Lib.hid (HB.out.trans (hb.mono HB.out.size))
  clear hb HLI
  go_wp2_with fail
  refine (D7.out _ _ _ R.out).mono ?_
  rintro e wq ⟨rfl, rfl⟩
  go_wp2_with fail
  refine (D6.out _ _ _ R.out).mono ?_
  rintro e z7 ⟨rfl, hb⟩
  have HB := Lib.hid (HB.out.trans (hb.mono HB.out.size))
  clear hb
  go_wp2_with fail
  refine (lives21 _).mono ?_
  rintro e wl ⟨rfl, hb⟩
  have HB := Lib.hid (HB.out.trans (hb.mono HB.out.size))
  clear hb
  go_wp2
  go_ret
  exact ⟨rfl, HB.out⟩

set_option maxRecDepth 100000 in
theorem lifted (os : Os) (started : os.Started) (H : Type) (enc : TypeId × Value → H) :
    ReturnsInHanded {} Try.checked os 9 .any (Rows.binPutsSpec.pre6 enc Try.prog Try.f9 Rows.binPutsRow.domain false) (Rows.binPutsSpec.post enc Try.prog Try.f9 false true false false) := by
  refine returnsInHanded_of_change (C := Try.checked) own started (by kernel_rfl) Try.func9
    (ChangeSpec.witness6 (enc := enc) (C := Try.checked) false ⟨#[], #[.slice none 0 0, .int .u64 0, .int .i64 0, .slice none 0 0, .slice none 0 0], []⟩ 8 (by kernel_rfl) (by kernel_rfl) (by kernel_rfl) (by kernel_rfl)) ?_
  intro W base args ds gs before hval0 hW hcnd _
  have hval : ∀ (j : Nat) t v, Try.f9.params[j]? = some t → args[j]? = some v → Value.okWide Try.prog W .any base t v := hval0
  have hW' := hW
  obtain ⟨p, q, hA0, hV, rfl, hfz, hnd⟩ := hW
  obtain ⟨rfl, rfl⟩ := trodVars_none hV
  have hA : DataW.TrodAll enc Try.prog W 0 (fun _ => true) true Try.f9.params.toList args.toList ds p := hA0
  rw [Try.params9] at hA hval
  obtain ⟨v0, vs0, d0, ds0, p0, q0, hargs, rfl, rfl, h0, r0⟩ := trodAll_cons hA
  obtain ⟨v1, vs1, d1, ds1, p1, q1, rfl, rfl, rfl, h1, r1⟩ := trodAll_cons r0
  obtain ⟨v2, vs2, d2, ds2, p2, q2, rfl, rfl, rfl, h2, r2⟩ := trodAll_cons r1
  obtain ⟨v3, vs3, d3, ds3, p3, q3, rfl, rfl, rfl, h3, r3⟩ := trodAll_cons r2
  obtain ⟨v4, vs4, d4, ds4, p4, q4, rfl, rfl, rfl, h4, r4⟩ := trodAll_cons r3
  obtain ⟨rfl, rfl, rfl⟩ := trodAll_nil r4
  obtain rfl : args = #[v0, v1, v2, v3, v4] := by cases args; simp_all
  obtain ⟨A0, l0, c0, rfl, L0, I0, C0, M0, N0⟩ := open_bytes Try.underlying77 Try.underlying5 cells_u8 (hval 0 77 v0 rfl rfl) h0
  obtain ⟨a1, rfl, _, _, w1⟩ := open_int Try.underlying78 (hval 1 78 v1 rfl rfl) h1
  obtain ⟨a2, rfl, _, _, w2⟩ := open_int Try.underlying3 (hval 2 3 v2 rfl rfl) h2
  obtain ⟨A3, l3, c3, rfl, L3, I3, C3, M3, N3⟩ := open_bytes Try.underlying77 Try.underlying5 cells_u8 (hval 3 77 v3 rfl rfl) h3
  obtain ⟨A4, l4, c4, rfl, L4, I4, C4, M4⟩ := open_ints8 Try.underlying30 Try.underlying3 cells_i8 (hval 4 30 v4 rfl rfl) h4
  refine (walk A0 l0 c0 L0 I0 C0 M0 N0 a1 (u64_of_wf w1) a2 (i64_of_wf w2) A3 l3 c3 L3 I3 C3 M3 N3 A4 l4 c4 L4 I4 C4 M4 W).mono fun e W' ⟨he, hg⟩ => ?_
  subst he
  exact ⟨_, rfl, law_post laid (by rw [Try.params9]; exact (by decide +kernel)) rfl (by kernel_rfl) Try.underlying4 rfl hW' hg⟩

theorem over : Rows.binPutsRow.holds Try.pinned (OpenSpec.ofChange Rows.binPutsSpec) :=
  OpenClaim.holds_of_wide 9 Try.f9 rfl rfl rfl rfl rfl rfl rfl ⟨rfl, rfl, rfl, rfl, rfl⟩ rfl rfl rfl rfl rfl (by kernel_rfl) Try.func9 (by kernel_rfl)
    (of_decide_eq_true (by kernel_rfl)) (by unfold Func.isWrapper; first | (rw [if_pos (by decide +kernel)]; kernel_rfl) | (rw [if_neg (by decide +kernel)]; exact ⟨rfl, rfl⟩))
    (fun os started H enc _ => lifted os started H enc)
theorem proved : Rows.BinPutsSaid := over
end Go.Proofs.Ytdcemcpcjdkpjaa.binPuts
