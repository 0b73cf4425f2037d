/- The first word to which two say unlike things: the program's Differ. -/
import Derived.Test.YtodcmlcpicabaaaTdUn
import Derived.Test.YtodcmlcpicabaaaTnCk
namespace Go.Proofs.Ytodcmlcpicabaaa
open Go.RowKit
set_option linter.unusedVariables false
set_option linter.unusedSimpArgs false

inductive DifP (x y : TrI) (w : World) (e : Ending) (w' : World) : Prop
  | bad (z : Int) (h : ChkB x y z) (hz : z ≠ 0) (he : e = .returned (.tuple #[.slice none 0 0, .bool false, .int .i64 z])) (g : w.grownBy w' none)
  | shape (h : GoodT x ∧ GoodT y) (hn : ¬ (x.I = y.I ∧ x.O = y.O)) (he : e = .returned (.tuple #[.slice none 0 0, .bool false, .int .i64 3])) (g : w.grownBy w' none)
  | found (h : GoodT x ∧ GoodT y) (hn : x.I = y.I ∧ x.O = y.O) (v : List Nat) (a : Option Addr) (c : Nat) (hf : FoundT x y x.I.toNat v) (hi : Ints w' a (nsT v)) (hl : v.length ≤ 60) (hv : ∀ l, l ∈ v → l < x.I.toNat) (he : e = .returned (.tuple #[.slice a v.length c, .bool true, .int .i64 0])) (g : w.grownBy w' none)
  | none (h : GoodT x ∧ GoodT y) (hn : x.I = y.I ∧ x.O = y.O) (hf : NoneT x y x.I.toNat) (he : e = .returned (.tuple #[.slice none 0 0, .bool false, .int .i64 0])) (g : w.grownBy w' none)

set_option maxHeartbeats 1600000 in
set_option maxRecDepth 100000 in
theorem differ_any (x y : TrI) (a3 a4 a5 a6 : Option Addr) (ac3 ac4 ac5 ac6 : Nat) (b3 b4 b5 b6 : Option Addr) (bc3 bc4 bc5 bc6 : Nat) (w : World) (hx : TnAt w x a3 a4 a5 a6) (hy : TnAt w y b3 b4 b5 b6) (hcx : x.F.length ≤ ac3) (hcy : y.F.length ≤ bc3) :
    Calls Try.prog 17 #[tnV x.I x.O x.S a3 x.F.length ac3 a4 x.N.length ac4 a5 x.Y.length ac5 a6 x.E.length ac6, tnV y.I y.O y.S b3 y.F.length bc3 b4 y.N.length bc4 b5 y.Y.length bc5 b6 y.E.length bc6] w (DifP x y w) := by
  obtain ⟨W1, hW1, g1, s1, bx, by'⟩ := two_boxes7 w x y a3 a4 a5 a6 ac3 ac4 ac5 ac6 b3 b4 b5 b6 bc3 bc4 bc5 bc6
  have HC : Hid (Calls Try.prog 18 #[tnV x.I x.O x.S a3 x.F.length ac3 a4 x.N.length ac4 a5 x.Y.length ac5 a6 x.E.length ac6, tnV y.I y.O y.S b3 y.F.length bc3 b4 y.N.length bc4 b5 y.Y.length bc5 b6 y.E.length bc6] W1 (ChkBP x y W1)) := checkBoth_any x y _ _ _ _ _ _ _ _ _ _ _ _ _ _ _ _ _ (hx.grown g1) (hy.grown g1)
  have HU : Hid (GoodT x ∧ GoodT y → x.I = y.I ∧ x.O = y.O → ∀ W, w.grownBy W none → Calls Try.prog 28 #[tnV x.I x.O x.S a3 x.F.length ac3 a4 x.N.length ac4 a5 x.Y.length ac5 a6 x.E.length ac6, tnV y.I y.O y.S b3 y.F.length bc3 b4 y.N.length bc4 b5 y.Y.length bc5 b6 y.E.length bc6] W (UnP x y x.I.toNat W)) := fun hG hn W hW => by
    have hI := hG.1.many.1
    have ry := hG.2.read
    rw [← hn.1] at ry
    unfold ManyT at hI
    exact unlike_any x y x.I.toNat _ _ _ _ _ _ _ _ _ _ _ _ _ _ _ _ W (hx.grown hW) (hy.grown hW) hG.1.read ry (by omega) (by omega) hG.1.size.2 hG.2.size.2 hcx hcy
  have HW1 : Hid (W1 = _) := hW1
  have G1 : Hid (w.grownBy W1 none) := g1
  have BX : Hid (∀ W, W1.grownBy W none → Box7 W w.heap.size x.I x.O x.S a3 x.F.length ac3 a4 x.N.length ac4 a5 x.Y.length ac5 a6 x.E.length ac6) := fun W hW => bx.grown hW
  have BY : Hid (∀ W, W1.grownBy W none → Box7 W (w.heap.size + 1) y.I y.O y.S b3 y.F.length bc3 b4 y.N.length bc4 b5 y.Y.length bc5 b6 y.E.length bc6) := fun W hW => by'.grown hW
  have x0 := bx.b0
  have x1 := bx.b1
  have x2 := bx.b2
  have x3 := bx.b3
  have x4 := bx.b4
  have x5 := bx.b5
  have x6 := bx.b6
  have y0 := by'.b0
  have y1 := by'.b1
  have y2 := by'.b2
  have y3 := by'.b3
  have y4 := by'.b4
  have y5 := by'.b5
  have y6 := by'.b6
  rw [hW1] at x0 x1 x2 x3 x4 x5 x6 y0 y1 y2 y3 y4 y5 y6
  obtain ⟨Po, hPo⟩ : ∃ P, P = DifP x y w := ⟨_, rfl⟩
  have HP1 : Hid (∀ z W, ChkB x y z → z ≠ 0 → W1.grownBy W none → Po (.returned (.tuple #[.slice none 0 0, .bool false, .int .i64 z])) W) := fun z W h1 h2 h3 => by rw [hPo]; exact .bad z h1 h2 rfl (grown_trans G1.out h3)
  have HP2 : Hid (∀ W, GoodT x ∧ GoodT y → ¬ (x.I = y.I ∧ x.O = y.O) → W1.grownBy W none → Po (.returned (.tuple #[.slice none 0 0, .bool false, .int .i64 3])) W) := fun W h1 h2 h3 => by rw [hPo]; exact .shape h1 h2 rfl (grown_trans G1.out h3)
  have HP3 : Hid (∀ v a c W, GoodT x ∧ GoodT y → x.I = y.I ∧ x.O = y.O → FoundT x y x.I.toNat v → Ints W a (nsT v) → v.length ≤ 60 → (∀ l, l ∈ v → l < x.I.toNat) → W1.grownBy W none → Po (.returned (.tuple #[.slice a (List.length v) c, .bool true, .int .i64 0])) W) := fun v a c W h1 h2 h3 h4 h5 h6 h7 => by rw [hPo]; exact .found h1 h2 v a c h3 h4 h5 h6 rfl (grown_trans G1.out h7)
  have HP4 : Hid (∀ W, GoodT x ∧ GoodT y → x.I = y.I ∧ x.O = y.O → NoneT x y x.I.toNat → W1.grownBy W none → Po (.returned (.tuple #[.slice none 0 0, .bool false, .int .i64 0])) W) := fun W h1 h2 h3 h4 => by rw [hPo]; exact .none h1 h2 h3 rfl (grown_trans G1.out h4)
  rw [← hPo]
  clear hW1 g1 s1 bx by' hx hy hPo
  go_enter Try.func17, Try.ntmps17
  go_wp2_with fail
  rw [← HW1.out]
  refine HC.out.mono ?_
  rintro E w2 ⟨z, rfl, hz, hg⟩
  have HZ : Hid (ChkB x y z) := hz
  have HG : Hid (W1.grownBy w2 none) := hg
  clear hz hg x0 x1 x2 x3 x4 x5 x6 y0 y1 y2 y3 y4 y5 y6 HC
  by_cases h0 : z = 0
  · have HGd : Hid (GoodT x ∧ GoodT y) := (HZ.out.all HZ.out).2.1 h0
    subst h0
    have x0 := (BX.out w2 HG.out).b0
    have x1 := (BX.out w2 HG.out).b1
    have y0 := (BY.out w2 HG.out).b0
    have y1 := (BY.out w2 HG.out).b1
    by_cases e1 : x.I = y.I
    · have d1 : (x.I != y.I) = false := by simpa using e1
      by_cases e2 : x.O = y.O
      · have d2 : (x.O != y.O) = false := by simpa using e2
        have HE : Hid (x.I = y.I ∧ x.O = y.O) := ⟨e1, e2⟩
        have HU2 : Hid (∀ W, w.grownBy W none → Calls Try.prog 28 #[tnV x.I x.O x.S a3 x.F.length ac3 a4 x.N.length ac4 a5 x.Y.length ac5 a6 x.E.length ac6, tnV y.I y.O y.S b3 y.F.length bc3 b4 y.N.length bc4 b5 y.Y.length bc5 b6 y.E.length bc6] W (UnP x y x.I.toNat W)) := HU.out HGd.out HE.out
        have x2 := (BX.out w2 HG.out).b2
        have x3 := (BX.out w2 HG.out).b3
        have x4 := (BX.out w2 HG.out).b4
        have x5 := (BX.out w2 HG.out).b5
        have x6 := (BX.out w2 HG.out).b6
        have y2 := (BY.out w2 HG.out).b2
        have y3 := (BY.out w2 HG.out).b3
        have y4 := (BY.out w2 HG.out).b4
        have y5 := (BY.out w2 HG.out).b5
        have y6 := (BY.out w2 HG.out).b6
        clear e1 e2
        go_wp2_with fail
        refine (HU2.out w2 (grown_trans G1.out HG.out)).mono ?_
        intro E w3 hun
        clear x0 x1 x2 x3 x4 x5 x6 y0 y1 y2 y3 y4 y5 y6 d1 d2
        rcases hun with ⟨v, a, c, rfl, hf, hi, hl, hv, hg3⟩ | ⟨rfl, hf, hg3⟩
        · have F : Hid (Po (.returned (.tuple #[.slice a (List.length v) c, .bool true, .int .i64 0])) w3) := HP3.out v a c w3 HGd.out HE.out hf hi hl hv (grown_trans HG.out hg3)
          generalize v.length = nv at *
          clear hf hi hg3
          go_wp2_with fail
          first | exact F.out | (go_ret; exact F.out) | exact bodyPost_ret (v := .tuple #[.slice a nv c, .bool true, .int .i64 0]) (by simp [results, Try.results17, go_sem]) rfl F.out
        · have F : Hid (Po (.returned (.tuple #[.slice none 0 0, .bool false, .int .i64 0])) w3) := HP4.out w3 HGd.out HE.out hf (grown_trans HG.out hg3)
          clear hf hg3
          go_wp2_with fail
          first | exact F.out | (go_ret; exact F.out) | exact bodyPost_ret (v := .tuple #[.slice none 0 0, .bool false, .int .i64 0]) (by simp [results, Try.results17, go_sem]) rfl F.out
      · have d2 : (x.O != y.O) = true := by simpa using e2
        have F : Hid (Po (.returned (.tuple #[.slice none 0 0, .bool false, .int .i64 3])) w2) := HP2.out w2 HGd.out (fun h => e2 h.2) HG.out
        clear e1 e2
        go_wp2_with fail
        first | exact F.out | (go_ret; exact F.out) | exact bodyPost_ret (v := .tuple #[.slice none 0 0, .bool false, .int .i64 3]) (by simp [results, Try.results17, go_sem]) rfl F.out
    · have d1 : (x.I != y.I) = true := by simpa using e1
      have F : Hid (Po (.returned (.tuple #[.slice none 0 0, .bool false, .int .i64 3])) w2) := HP2.out w2 HGd.out (fun h => e1 h.1) HG.out
      clear e1
      go_wp2_with fail
      first | exact F.out | (go_ret; exact F.out) | exact bodyPost_ret (v := .tuple #[.slice none 0 0, .bool false, .int .i64 3]) (by simp [results, Try.results17, go_sem]) rfl F.out
  · have d1 : (z != 0) = true := by simpa using h0
    have F : Hid (Po (.returned (.tuple #[.slice none 0 0, .bool false, .int .i64 z])) w2) := HP1.out z w2 HZ.out h0 HG.out
    clear h0
    go_wp2_with fail
    first | exact F.out | (go_ret; exact F.out) | exact bodyPost_ret (v := .tuple #[.slice none 0 0, .bool false, .int .i64 z]) (by simp [results, Try.results17, go_sem]) rfl F.out

end Go.Proofs.Ytodcmlcpicabaaa
