/- det.Apart: what is not right is refused; else the first word. -/
import Derived.Test.YtofjboelplknhaaADefs
import Derived.Test.YtofjboelplknhaaDChk
namespace Go.Proofs.Ytofjboelplknhaa
open Go.RowKit
set_option linter.unusedVariables false

set_option maxHeartbeats 1600000 in
set_option maxRecDepth 100000 in
theorem apartE_bad (L S p q : Int) (R : List (List Int)) (M : List Int) (a a' : Option Addr) (c c' : Nat) (w : World) (h : DetAt w ⟨L, S, R, M⟩ a a') (hb : checkF ⟨L, S, R, M⟩ ≠ 0) :
    Calls Try.prog 11 #[.agg #[.int .i64 L, .int .i64 S, .slice a R.length c, .slice a' M.length c'], .int .i64 p, .int .i64 q] w (ApartNPost (checkF ⟨L, S, R, M⟩) w) := by
  have HG : Hid (∀ o, w.grownBy (w.alloc o) none) := fun o => grown_alloc w o
  have HC : Hid (∀ W, w.grownBy W none → Calls Try.prog 40 #[.agg #[.int .i64 L, .int .i64 S, .slice a R.length c, .slice a' M.length c']] W fun e w' => e = .returned (.int .i64 (checkF ⟨L, S, R, M⟩)) ∧ W.grownBy w' none) := fun W hW => check_any L S R M a a' c c' W (h.grown hW)
  obtain ⟨y, hy⟩ : ∃ y, checkF ⟨L, S, R, M⟩ = y := ⟨_, rfl⟩
  rw [hy] at HC hb ⊢
  have hy' : (y != 0) = true := by simpa using hb
  have hy'' : (y == 0) = false := by simpa using hb
  clear hy h hb
  go_enter Try.func11, Try.ntmps11
  go_wp2_with fail
  refine (HC.out _ (HG.out _)).mono ?_
  rintro e w2 ⟨rfl, hg2⟩
  have G2 : Hid (w.grownBy w2 none) := grown_trans (HG.out _) hg2
  clear hg2
  go_wp2_with fail
  exact bodyPost_ret (v := .tuple #[.slice none 0 0, .bool false, .int .i64 y]) (by simp [results, Try.results11, go_sem]) rfl ⟨rfl, G2.out⟩

set_option maxHeartbeats 1600000 in
set_option maxRecDepth 100000 in
theorem apartE_out (L S p q : Int) (R : List (List Int)) (M : List Int) (a a' : Option Addr) (c c' : Nat) (w : World) (h : DetAt w ⟨L, S, R, M⟩ a a') (hG : Good ⟨L, S, R, M⟩) (hpq : ¬ (IsSt p R.length ∧ IsSt q R.length)) :
    Calls Try.prog 11 #[.agg #[.int .i64 L, .int .i64 S, .slice a R.length c, .slice a' M.length c'], .int .i64 p, .int .i64 q] w (ApartNPost 2 w) := by
  have HG : Hid (∀ o, w.grownBy (w.alloc o) none) := fun o => grown_alloc w o
  have HC : Hid (∀ W, w.grownBy W none → Calls Try.prog 40 #[.agg #[.int .i64 L, .int .i64 S, .slice a R.length c, .slice a' M.length c']] W fun e w' => e = .returned (.int .i64 0) ∧ W.grownBy w' none) := fun W hW => by
    have := check_any L S R M a a' c c' W (h.grown hW)
    rw [checkF_good hG] at this
    exact this
  have HI : Hid (∀ x W, Calls Try.prog 42 #[.agg #[.int .i64 L, .int .i64 S, .slice a R.length c, .slice a' M.length c'], .int .i64 x] W (TellsB (IsSt x R.length) W)) := fun x W => isState_any L S x R M a a' c c' W
  have HPQ : Hid (¬ (IsSt p R.length ∧ IsSt q R.length)) := hpq
  clear h hG hpq
  go_enter Try.func11, Try.ntmps11
  go_wp2_with fail
  refine (HC.out _ (HG.out _)).mono ?_
  rintro e w2 ⟨rfl, hg2⟩
  obtain ⟨b0, b1, b2, b3⟩ := box4 hg2
  have G2 : Hid (w.grownBy w2 none) := grown_trans (HG.out _) hg2
  clear hg2
  go_wp2_with fail
  refine (HI.out p _).mono ?_
  rintro e w3 ⟨bp, rfl, hbp, hg3⟩
  have d0 := hg3.cell b0 (by simp)
  have d1 := hg3.cell b1 (by simp)
  have d2 := hg3.cell b2 (by simp)
  have d3 := hg3.cell b3 (by simp)
  have HBp : Hid (bp = true ↔ IsSt p R.length) := hbp
  have G3 : Hid (w.grownBy w3 none) := grown_trans G2.out hg3
  clear hbp hg3 b0 b1 b2 b3 G2
  cases bp with
  | false =>
    go_wp2_with fail
    exact bodyPost_ret (v := .tuple #[.slice none 0 0, .bool false, .int .i64 2]) (by simp [results, Try.results11, go_sem]) rfl ⟨rfl, G3.out⟩
  | true =>
    have HP : Hid (IsSt p R.length) := HBp.out.1 rfl
    clear HBp
    go_wp2_with fail
    refine (HI.out q _).mono ?_
    rintro e w4 ⟨bq, rfl, hbq, hg4⟩
    have hf : bq = false := by
      cases bq with
      | false => rfl
      | true => exact absurd ⟨HP.out, hbq.1 rfl⟩ HPQ.out
    subst hf
    have G4 : Hid (w.grownBy w4 none) := grown_trans G3.out hg4
    clear hbq hg4 d0 d1 d2 d3
    go_wp2_with fail
    exact bodyPost_ret (v := .tuple #[.slice none 0 0, .bool false, .int .i64 2]) (by simp [results, Try.results11, go_sem]) rfl ⟨rfl, G4.out⟩

set_option maxHeartbeats 1600000 in
set_option maxRecDepth 100000 in
theorem apartE_good (L S : Int) (p q l : Nat) (R : List (List Int)) (M : List Int) (a a' : Option Addr) (c c' : Nat) (w : World) (T : List Nat → Bool) (h : DetAt w ⟨L, S, R, M⟩ a a') (hG : Good ⟨L, S, R, M⟩) (hp : p < R.length) (hq : q < R.length)
    (hA : ∀ W, w.grownBy W none → Calls Try.prog 43 #[.agg #[.int .i64 L, .int .i64 S, .slice a R.length c, .slice a' M.length c'], .int .i64 (p : Nat), .int .i64 (q : Nat)] W (ApartPost T l W)) :
    Calls Try.prog 11 #[.agg #[.int .i64 L, .int .i64 S, .slice a R.length c, .slice a' M.length c'], .int .i64 (p : Nat), .int .i64 (q : Nat)] w (ApartGPost T l w) := by
  have HG : Hid (∀ o, w.grownBy (w.alloc o) none) := fun o => grown_alloc w o
  have HC : Hid (∀ W, w.grownBy W none → Calls Try.prog 40 #[.agg #[.int .i64 L, .int .i64 S, .slice a R.length c, .slice a' M.length c']] W fun e w' => e = .returned (.int .i64 0) ∧ W.grownBy w' none) := fun W hW => by
    have := check_any L S R M a a' c c' W (h.grown hW)
    rw [checkF_good hG] at this
    exact this
  have HI : Hid (∀ (x : Nat) W, x < R.length → Calls Try.prog 42 #[.agg #[.int .i64 L, .int .i64 S, .slice a R.length c, .slice a' M.length c'], .int .i64 (x : Nat)] W fun e w' => e = .returned (.bool true) ∧ W.grownBy w' none) := fun x W hx => by
    refine (isState_any L S x R M a a' c c' W).mono ?_
    rintro e w' ⟨b, rfl, hb, hg⟩
    have : b = true := hb.2 ⟨by omega, by omega⟩
    subst this
    exact ⟨rfl, hg⟩
  have HA : Hid (∀ W, w.grownBy W none → Calls Try.prog 43 #[.agg #[.int .i64 L, .int .i64 S, .slice a R.length c, .slice a' M.length c'], .int .i64 (p : Nat), .int .i64 (q : Nat)] W (ApartPost T l W)) := hA
  clear h hG hA
  go_enter Try.func11, Try.ntmps11
  go_wp2_with fail
  refine (HC.out _ (HG.out _)).mono ?_
  rintro e w2 ⟨rfl, hg2⟩
  obtain ⟨b0, b1, b2, b3⟩ := box4 hg2
  have G2 : Hid (w.grownBy w2 none) := grown_trans (HG.out _) hg2
  clear hg2
  go_wp2_with fail
  refine (HI.out p _ hp).mono ?_
  rintro e w3 ⟨rfl, hg3⟩
  have d0 := hg3.cell b0 (by simp)
  have d1 := hg3.cell b1 (by simp)
  have d2 := hg3.cell b2 (by simp)
  have d3 := hg3.cell b3 (by simp)
  have G3 : Hid (w.grownBy w3 none) := grown_trans G2.out hg3
  clear hg3 b0 b1 b2 b3 G2
  go_wp2_with fail
  refine (HI.out q _ hq).mono ?_
  rintro e w4 ⟨rfl, hg4⟩
  have f0 := hg4.cell d0 (by simp)
  have f1 := hg4.cell d1 (by simp)
  have f2 := hg4.cell d2 (by simp)
  have f3 := hg4.cell d3 (by simp)
  have G4 : Hid (w.grownBy w4 none) := grown_trans G3.out hg4
  clear hg4 d0 d1 d2 d3 G3
  go_wp2_with fail
  refine (HA.out _ G4.out).mono ?_
  rintro e w5 ⟨zs, is, az, cz, rfl, h1, h2, h3, h4⟩
  have Fin : Hid (ApartGPost T l w (.returned (.tuple #[.slice az zs.length cz, .bool is, .int .i64 0])) w5) := ⟨zs, is, az, cz, rfl, h1, h2, h3.base G4.out.size, grown_trans G4.out h4⟩
  clear h1 h2 h3 h4 f0 f1 f2 f3
  generalize zs.length = nz at *
  go_wp2_with fail
  exact bodyPost_ret (v := .tuple #[.slice az nz cz, .bool is, .int .i64 0]) (by simp [results, Try.results11, go_sem]) rfl Fin.out

end Go.Proofs.Ytofjboelplknhaa
