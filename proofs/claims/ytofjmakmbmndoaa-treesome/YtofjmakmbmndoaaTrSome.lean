/- A least tree: the program's Some; the law's copy of an automaton of trees. -/
import Derived.Test.YtofjmakmbmndoaaTrStore
import Derived.Test.YtofjmakmbmndoaaTrSmall
import Derived.Test.YtofjmakmbmndoaaRList1
namespace Go.Proofs.Ytofjmakmbmndoaa
open Go.RowKit
set_option linter.unusedVariables false

set_option maxHeartbeats 1600000 in
set_option maxRecDepth 100000 in
theorem some_bad (x : Trs) (b e : Option Addr) (d f : Nat) (w : World) (h : TrsAt w x b e) (hx : checkT x ≠ 0) :
    Calls Try.prog 13 #[trsV x.L x.N b x.R.length d x.S e x.M.length f] w (Says (.tuple #[treeV none 0 0, .bool false, .int .i64 (checkT x)]) w) := by
  have HC : Hid (∀ W, w.grownBy W none → Calls Try.prog 6 #[trsV x.L x.N b x.R.length d x.S e x.M.length f] W (Says (.int .i64 (checkT x)) W)) := fun W hW => checkT_any x b e d f W (h.grown hW)
  generalize checkT x = ce at *
  obtain ⟨L, N, R, S0, M⟩ := x
  simp only at *
  generalize R.length = nR at *
  generalize M.length = nM at *
  obtain ⟨W1, hW1, g1, s1, hrb, bx⟩ := two_boxT w (.int .i64 L) (.int .i64 N) (.slice b nR d) (.int .i64 S0) (.slice e nM f)
  have HW1 : Hid (W1 = _) := hW1
  have G1 : Hid (w.grownBy W1 none) := g1
  have HRB : Hid (W1.heap[w.heap.size + 1]? = some (.cells #[.slice none 0 0] 28 (0, 0))) := hrb
  obtain ⟨x0, x1, x2, x3, x4⟩ := bx W1 (grown_refl _ _)
  rw [hW1] at x0 x1 x2 x3 x4
  have d1 : (ce != 0) = true := by simpa using hx
  have hs1 : w.heap.size + 1 < W1.heap.size := by omega
  have HS1 : Hid (w.heap.size + 1 < W1.heap.size) := hs1
  clear h hW1 g1 s1 hrb bx hx hs1
  go_enter Try.func13, Try.ntmps13
  go_wp2_with fail
  rw [← HW1.out]
  clear x0 x1 x2 x3 x4
  refine (HC.out _ G1.out).mono ?_
  rintro E w2 ⟨rfl, hg2⟩
  have hr2 : w2.heap[w.heap.size + 1]? = some (.cells #[.slice none 0 0] 28 (0, 0)) := (hg2.block _ HS1.out (by simp)).trans HRB.out
  obtain ⟨xr, fr, W5, hW5, g5, xw⟩ := res_store hr2 (.slice none 0 0)
  have HW5 : Hid (W5 = _) := hW5
  have GF : Hid (w.grownBy W5 none) := grown_new (grown_trans G1.out hg2) g5 (by omega)
  clear hg2 hr2 hW5 g5
  go_wp2_with fail
  rw [← HW5.out]
  exact bodyPost_ret (v := .tuple #[treeV none 0 0, .bool false, .int .i64 ce]) (by simp [results, Try.results13, go_sem, xw]) rfl ⟨rfl, GF.out⟩

set_option maxHeartbeats 1600000 in
set_option maxRecDepth 100000 in
theorem some_good (x : Trs) (b e : Option Addr) (d f : Nat) (w : World) (h : TrsAt w x b e) (hx : checkT x = 0) :
    Calls Try.prog 13 #[trsV x.L x.N b x.R.length d x.S e x.M.length f] w (SomePost x w) := by
  have hG := goodT_of_check hx
  have HC : Hid (∀ W, w.grownBy W none → Calls Try.prog 6 #[trsV x.L x.N b x.R.length d x.S e x.M.length f] W (Says (.int .i64 0) W)) := fun W hW => by
    have := checkT_any x b e d f W (h.grown hW)
    rwa [hx] at this
  have HSm : Hid (∀ W, w.grownBy W none → Calls Try.prog 25 #[trsV x.L x.N b x.R.length d x.S e x.M.length f] W (SmallPost x.R x.M x.L W)) := fun W hW => smallest_any x b e d f W (h.grown hW) hG.ru (by have := hG.r4; omega) hG.n1 hG.n3 hG.m
  have HIs : Hid (∀ (T : List NodeI) (n : Nat), SmallIs x.R x.M x.L T n → SomeIs x T (decide (n ≤ 60))) := fun T n hh => some_of_small hG hh
  have HPost : Hid (∀ (T : List NodeI) (a : Option Addr) (c : Nat) (is : Bool) (W : World), SomeIs x T is → NodesAt W a T → w.grownBy W none → SomePost x w (.returned (.tuple #[treeV a T.length c, .bool is, .int .i64 0])) W) := fun T a c is W h1 h2 h3 => ⟨T, a, c, is, rfl, h1, h2, h3⟩
  obtain ⟨P, hP⟩ : ∃ P, P = SomePost x w := ⟨_, rfl⟩
  rw [← hP] at HPost ⊢
  generalize hI : SomeIs x = I at *
  obtain ⟨L, N, R, S0, M⟩ := x
  simp only at *
  generalize R.length = nR at *
  generalize M.length = nM at *
  obtain ⟨W1, hW1, g1, s1, hrb, bx⟩ := two_boxT w (.int .i64 L) (.int .i64 N) (.slice b nR d) (.int .i64 S0) (.slice e nM f)
  have HW1 : Hid (W1 = _) := hW1
  have G1 : Hid (w.grownBy W1 none) := g1
  have HRB : Hid (W1.heap[w.heap.size + 1]? = some (.cells #[.slice none 0 0] 28 (0, 0))) := hrb
  have BX : Hid _ := bx
  obtain ⟨x0, x1, x2, x3, x4⟩ := bx W1 (grown_refl _ _)
  rw [hW1] at x0 x1 x2 x3 x4
  have HS1 : Hid (w.heap.size + 1 < W1.heap.size) := by show _ < _; omega
  clear h hW1 g1 s1 hrb bx hx hP hI hG
  go_enter Try.func13, Try.ntmps13
  go_wp2_with fail
  rw [← HW1.out]
  clear x0 x1 x2 x3 x4
  refine (HC.out _ G1.out).mono ?_
  rintro E w2 ⟨rfl, hg2⟩
  have G2 : Hid (W1.grownBy w2 none) := hg2
  obtain ⟨x0, x1, x2, x3, x4⟩ := BX.out w2 hg2
  clear hg2
  go_wp2_with fail
  clear x0 x1 x2 x3 x4
  refine (HSm.out _ (grown_trans G1.out G2.out)).mono ?_
  rintro E w3 ⟨T, a, c, n, rfl, hn62, hIs, hN, hg3, _⟩
  obtain ⟨W4, hW4, g4, s4, bx4⟩ := box1_new w3 (.slice a T.length c) 28
  have HW4 : Hid (W4 = _) := hW4
  have hr4 : W4.heap[w.heap.size + 1]? = some (.cells #[.slice none 0 0] 28 (0, 0)) := ((grown_trans G2.out (grown_trans hg3 g4)).block _ HS1.out (by simp)).trans HRB.out
  have xb := bx4 W4 (grown_refl _ _)
  obtain ⟨xr, fr, W5, hW5, g5, xw⟩ := res_store hr4 (.slice a T.length c)
  have HW5 : Hid (W5 = _) := hW5
  have Fin : Hid (P (.returned (.tuple #[treeV a T.length c, .bool (decide (n ≤ 60)), .int .i64 0])) W5) := HPost.out T a c _ W5 (HIs.out T n hIs) ((hN.grown g4).far hr4 g5) (grown_new (grown_trans G1.out (grown_trans G2.out (grown_trans hg3 g4))) g5 (by omega))
  have en : decide ((n : Int) ≤ 60) = decide (n ≤ 60) := by rw [decide_eq_decide]; omega
  generalize decide (n ≤ 60) = bn at *
  generalize T.length = nT at *
  rw [hW4] at xb xr fr
  clear hIs hN hg3 g4 s4 bx4 hr4 g5 hW5 hW4 HIs HPost
  go_wp2_with fail
  rw [← HW4.out, ← HW5.out]
  exact bodyPost_ret (v := .tuple #[treeV a nT c, .bool bn, .int .i64 0]) (by simp [results, Try.results13, go_sem, xw]) rfl Fin.out

end Go.Proofs.Ytofjmakmbmndoaa
