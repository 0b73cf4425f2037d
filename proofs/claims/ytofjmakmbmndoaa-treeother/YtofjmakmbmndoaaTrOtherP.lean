/- TreeOther holds: whatever automaton of trees and whatever tree come in, in whatever memory, shared or not: the program refuses what the reference refuses, with the same error, and else makes an automaton that may be one, with as many letters, and accepts the tree just if the first does not. -/
import Derived.Test.YtofjmakmbmndoaaTrOther
import Derived.Test.YtofjmakmbmndoaaTrCopy
import Derived.Test.YtofjmakmbmndoaaTrAccR
import Derived.Test.YtofjmakmbmndoaaTrTreeR
import Derived.Test.YtofjmakmbmndoaaTrCheckR
import Derived.Test.YtofjmakmbmndoaaTrSized
import Derived.Test.YtofjmakmbmndoaaTrNodes
namespace Go.Proofs.Ytofjmakmbmndoaa
open Go.ChangeShapes Go.WideShapes Go.ChangeAt Go.RowKit Go.Joins
set_option linter.unusedVariables false

theorem check_of_good {x : Trs} (h : GoodT x) : checkT x = 0 := checkT_ok h.toShpT h.ru h.mks h.ri h.st

set_option maxHeartbeats 3200000 in
set_option maxRecDepth 100000 in
theorem olaw_bad (L N S0 : Int) (b e a : Option Addr) (nR d nM f nT c : Nat) (re ce : Int) (w : World) (hre : re ≠ 0) (hco : ce = 0 → (6 < N ∨ 2 < L) ∧ re = 1) (hcn : ce ≠ 0 → re = ce)
    (HT : Hid (∀ W, w.grownBy W none → Calls Try.prog 12 #[trsV L N b nR d S0 e nM f] W (fun E W' => ∃ (b' e' : Option Addr) (d' f' : Nat), E = .returned (trsV L N b' nR d' S0 e' nM f') ∧ Hid (∀ V, W'.grownBy V none → Calls Try.prog 15 #[trsV L N b' nR d' S0 e' nM f'] V (Says (.tuple #[noTrs, .int .i64 re]) V)) ∧ W.grownBy W' none)))
    (HC : Hid (∀ W, w.grownBy W none → Calls Try.prog 7 #[trsV L N b nR d S0 e nM f] W (Says (.int .i64 ce) W))) :
    Calls Try.prog 5 #[trsV L N b nR d S0 e nM f, treeV a nT c] w (Says (.bool true) w) := by
  obtain ⟨W0, hW0, g0, s0, bx0⟩ := box5_new w (.int .i64 L) (.int .i64 N) (.slice b nR d) (.int .i64 S0) (.slice e nM f) 25
  obtain ⟨W1, hW1, g1, s1, bx1⟩ := box1_new W0 (.slice a nT c) 28
  have HW1 : Hid (W1 = (w.alloc (.cells #[.int .i64 L, .int .i64 N, .slice b nR d, .int .i64 S0, .slice e nM f] 25)).alloc (.cells #[.slice a nT c] 28)) := by show _ = _; rw [hW1, hW0]
  have G1 : Hid (w.grownBy W1 none) := grown_trans g0 g1
  have BX : Hid (∀ W', W1.grownBy W' none → W'.cell? ⟨w.heap.size, 0, none⟩ = some (.int .i64 L) ∧ W'.cell? ⟨w.heap.size, 1, none⟩ = some (.int .i64 N) ∧ W'.cell? ⟨w.heap.size, 2, none⟩ = some (.slice b nR d) ∧ W'.cell? ⟨w.heap.size, 3, none⟩ = some (.int .i64 S0) ∧ W'.cell? ⟨w.heap.size, 4, none⟩ = some (.slice e nM f)) := fun W' hW' => bx0 W' (grown_trans g1 hW')
  obtain ⟨x0, x1, x2, x3, x4⟩ := BX.out W1 (grown_refl _ _)
  rw [HW1.out] at x0 x1 x2 x3 x4
  clear hW0 hW1 g0 g1 s0 s1 bx0 bx1
  have HCO : Hid (ce = 0 → (6 < N ∨ 2 < L) ∧ re = 1) := hco
  have HCN : Hid (ce ≠ 0 → re = ce) := hcn
  have HRE : Hid (re ≠ 0) := hre
  clear hco hcn hre
  go_enter Try.func5, Try.ntmps5
  go_wp2_with fail
  rw [← HW1.out]
  clear x0 x1 x2 x3 x4
  refine (HT.out _ G1.out).mono ?_
  rintro E w2 ⟨b', e', d', f', rfl, HOt, hg2⟩
  obtain ⟨W3, hW3, g3, s3, bx3⟩ := box5_new w2 (.int .i64 L) (.int .i64 N) (.slice b' nR d') (.int .i64 S0) (.slice e' nM f') 25
  have HW3 : Hid (W3 = _) := hW3
  have G3 : Hid (W1.grownBy W3 none) := grown_trans hg2 g3
  have C3 : Hid (Calls Try.prog 15 #[trsV L N b' nR d' S0 e' nM f'] W3 (Says (.tuple #[noTrs, .int .i64 re]) W3)) := HOt.out W3 g3
  obtain ⟨z0, z1, z2, z3, z4⟩ := bx3 W3 (grown_refl _ _)
  rw [hW3] at z0 z1 z2 z3 z4
  clear hg2 g3 s3 bx3 hW3 HOt HT
  go_wp2_with fail
  rw [← HW3.out]
  clear z0 z1 z2 z3 z4
  refine C3.out.mono ?_
  rintro E w4 ⟨rfl, hg4⟩
  obtain ⟨W5, hW5, g5, s5, bx5⟩ := box5_new w4 (.int .i64 0) (.int .i64 0) (.slice none 0 0) (.int .i64 0) (.slice none 0 0) 25
  have HW5 : Hid (W5 = _) := hW5
  have G5 : Hid (W1.grownBy W5 none) := grown_trans G3.out (grown_trans hg4 g5)
  have BX5 : Hid _ := bx5
  obtain ⟨x0, x1, x2, x3, x4⟩ := BX.out W5 G5.out
  rw [hW5] at x0 x1 x2 x3 x4
  clear hg4 g5 s5 bx5 hW5 C3
  go_wp2_with fail
  rw [← HW5.out]
  clear x0 x1 x2 x3 x4
  refine (HC.out _ (grown_trans G1.out G5.out)).mono ?_
  rintro E w6 ⟨rfl, hg6⟩
  obtain ⟨y0, y1, y2, y3, y4⟩ := BX5.out w6 hg6
  obtain ⟨x0, x1, x2, x3, x4⟩ := BX.out w6 (grown_trans G5.out hg6)
  have GF : Hid (w.grownBy w6 none) := grown_trans G1.out (grown_trans G5.out hg6)
  clear hg6
  by_cases h0 : ce = 0
  · have d0 : (ce == 0) = true := by simpa using h0
    obtain ⟨hs, h1⟩ := HCO.out h0
    subst h1
    obtain ⟨bN, hbN⟩ : ∃ bN, decide (6 < N) = bN := ⟨_, rfl⟩
    have hbL : bN = false → decide (2 < L) = true := fun e => by
      rw [e, decide_eq_false_iff_not] at hbN
      exact decide_eq_true (by omega)
    clear hs h0
    cases bN
    all_goals
      try have hbL' := hbL rfl
      clear hbL
      go_wp2_with fail
      go_ret
      exact ⟨rfl, GF.out⟩
  · have d0 : (ce == 0) = false := by simpa using h0
    have d1 : (ce != 0) = true := by simpa using h0
    have h1 := HCN.out h0
    subst h1
    have d2 : (re == re) = true := by simp
    clear h0
    go_wp2_with fail
    go_ret
    exact ⟨rfl, GF.out⟩

set_option maxHeartbeats 3200000 in
set_option maxRecDepth 100000 in
theorem olaw_good (L N S0 : Int) (b e a : Option Addr) (nR d nM f nT c : Nat) (te : Int) (w : World) (hN : N ≤ 6) (hL : L ≤ 2)
    (HT : Hid (∀ W, w.grownBy W none → Calls Try.prog 12 #[trsV L N b nR d S0 e nM f] W (fun E W' => ∃ (b' e' : Option Addr) (d' f' : Nat), E = .returned (trsV L N b' nR d' S0 e' nM f') ∧
      Hid (∀ V, W'.grownBy V none → Calls Try.prog 15 #[trsV L N b' nR d' S0 e' nM f'] V (fun E V' => ∃ (n qR qM cr cm : Nat) (ar am : Option Addr), E = .returned (.tuple #[trsV L (n : Int) ar qR cr 0 am qM cm, .int .i64 0]) ∧
        Hid (∀ U, V'.grownBy U none → Calls Try.prog 7 #[trsV L (n : Int) ar qR cr 0 am qM cm] U (Says (.int .i64 0) U)) ∧
        Hid (te = 0 → ∀ U, w.grownBy U none → V'.grownBy U none → ∃ q : Bool, Calls Try.prog 11 #[trsV L N b nR d S0 e nM f, treeV a nT c] U (Says (.bool q) U) ∧ ∀ U', U.grownBy U' none → Calls Try.prog 11 #[trsV L (n : Int) ar qR cr 0 am qM cm, treeV a nT c] U' (Says (.bool (!q)) U')) ∧ V.grownBy V' none)) ∧ W.grownBy W' none)))
    (HC : Hid (∀ W, w.grownBy W none → Calls Try.prog 7 #[trsV L N b nR d S0 e nM f] W (Says (.int .i64 0) W)))
    (HTr : Hid (∀ W, w.grownBy W none → Calls Try.prog 9 #[.int .i64 L, treeV a nT c] W (Says (.int .i64 te) W))) :
    Calls Try.prog 5 #[trsV L N b nR d S0 e nM f, treeV a nT c] w (Says (.bool true) w) := by
  obtain ⟨W0, hW0, g0, s0, bx0⟩ := box5_new w (.int .i64 L) (.int .i64 N) (.slice b nR d) (.int .i64 S0) (.slice e nM f) 25
  obtain ⟨W1, hW1, g1, s1, bx1⟩ := box1_new W0 (.slice a nT c) 28
  have HW1 : Hid (W1 = (w.alloc (.cells #[.int .i64 L, .int .i64 N, .slice b nR d, .int .i64 S0, .slice e nM f] 25)).alloc (.cells #[.slice a nT c] 28)) := by show _ = _; rw [hW1, hW0]
  have G1 : Hid (w.grownBy W1 none) := grown_trans g0 g1
  rw [s0] at bx1
  have BX : Hid (∀ W', W1.grownBy W' none → W'.cell? ⟨w.heap.size, 0, none⟩ = some (.int .i64 L) ∧ W'.cell? ⟨w.heap.size, 1, none⟩ = some (.int .i64 N) ∧ W'.cell? ⟨w.heap.size, 2, none⟩ = some (.slice b nR d) ∧ W'.cell? ⟨w.heap.size, 3, none⟩ = some (.int .i64 S0) ∧ W'.cell? ⟨w.heap.size, 4, none⟩ = some (.slice e nM f) ∧ W'.cell? ⟨w.heap.size + 1, 0, none⟩ = some (.slice a nT c)) := fun W' hW' => by
    obtain ⟨q0, q1, q2, q3, q4⟩ := bx0 W' (grown_trans g1 hW')
    exact ⟨q0, q1, q2, q3, q4, bx1 W' hW'⟩
  obtain ⟨x0, x1, x2, x3, x4, x5⟩ := BX.out W1 (grown_refl _ _)
  rw [HW1.out] at x0 x1 x2 x3 x4 x5
  have dN : decide (6 < N) = false := by simp; omega
  have dL : decide (2 < L) = false := by simp; omega
  have dLL : (L != L) = false := by simp
  clear hW0 hW1 g0 g1 s0 s1 bx0 bx1 hN hL
  go_enter Try.func5, Try.ntmps5
  go_wp2_with fail
  rw [← HW1.out]
  clear x0 x1 x2 x3 x4 x5
  refine (HT.out _ G1.out).mono ?_
  rintro E w2 ⟨b', e', d', f', rfl, HOt, hg2⟩
  obtain ⟨W3, hW3, g3, s3, bx3⟩ := box5_new w2 (.int .i64 L) (.int .i64 N) (.slice b' nR d') (.int .i64 S0) (.slice e' nM f') 25
  have HW3 : Hid (W3 = _) := hW3
  have G3 : Hid (W1.grownBy W3 none) := grown_trans hg2 g3
  have C3 := HOt.out W3 g3
  obtain ⟨z0, z1, z2, z3, z4⟩ := bx3 W3 (grown_refl _ _)
  rw [hW3] at z0 z1 z2 z3 z4
  clear hg2 g3 s3 bx3 hW3 HOt HT
  have HC3 : Hid _ := C3
  clear C3
  go_wp2_with fail
  rw [← HW3.out]
  clear z0 z1 z2 z3 z4
  refine Calls.mono HC3.out ?_
  rintro E w4 ⟨n, qR, qM, cr, cm, ar, am, rfl, HCk, HAc, hg4⟩
  obtain ⟨W5, hW5, g5, s5, bx5⟩ := box5_new w4 (.int .i64 L) (.int .i64 (n : Int)) (.slice ar qR cr) (.int .i64 0) (.slice am qM cm) 25
  have HW5 : Hid (W5 = _) := hW5
  have G5 : Hid (W1.grownBy W5 none) := grown_trans G3.out (grown_trans hg4 g5)
  have G45 : Hid (w4.grownBy W5 none) := g5
  have BX5 : Hid _ := bx5
  obtain ⟨x0, x1, x2, x3, x4, x5⟩ := BX.out W5 G5.out
  rw [hW5] at x0 x1 x2 x3 x4 x5
  clear hg4 g5 s5 bx5 hW5 HC3
  go_wp2_with fail
  rw [← HW5.out]
  clear x0 x1 x2 x3 x4 x5
  refine (HC.out _ (grown_trans G1.out G5.out)).mono ?_
  rintro E w6 ⟨rfl, hg6⟩
  have G6 : Hid (W1.grownBy w6 none) := grown_trans G5.out hg6
  have G56 : Hid (W5.grownBy w6 none) := hg6
  obtain ⟨y0, y1, y2, y3, y4⟩ := BX5.out w6 hg6
  obtain ⟨x0, x1, x2, x3, x4, x5⟩ := BX.out w6 G6.out
  clear hg6
  go_wp2_with fail
  clear x0 x1 x2 x3 x4 x5 y0 y1 y2 y3 y4
  refine (HCk.out _ (grown_trans G45.out G56.out)).mono ?_
  rintro E w7 ⟨rfl, hg7⟩
  have G7 : Hid (W1.grownBy w7 none) := grown_trans G6.out hg7
  have G57 : Hid (W5.grownBy w7 none) := grown_trans G56.out hg7
  obtain ⟨y0, y1, y2, y3, y4⟩ := BX5.out w7 G57.out
  obtain ⟨x0, x1, x2, x3, x4, x5⟩ := BX.out w7 G7.out
  clear hg7
  go_wp2_with fail
  clear x0 x1 x2 x3 x4 x5 y0 y1 y2 y3 y4
  refine (HTr.out _ (grown_trans G1.out G7.out)).mono ?_
  rintro E w8 ⟨rfl, hg8⟩
  have G8 : Hid (W1.grownBy w8 none) := grown_trans G7.out hg8
  have G58 : Hid (W5.grownBy w8 none) := grown_trans G57.out hg8
  clear hg8
  by_cases h0 : te = 0
  case neg =>
    have d0 : (te != 0) = true := by simpa using h0
    clear h0 HAc
    go_wp2_with fail
    go_ret
    exact ⟨rfl, grown_trans G1.out G8.out⟩
  have d0 : (te != 0) = false := by simpa using h0
  obtain ⟨q, hA1, hA2⟩ := HAc.out h0 w8 (grown_trans G1.out G8.out) (grown_trans G45.out G58.out)
  have A1 : Hid (Calls Try.prog 11 #[trsV L N b nR d S0 e nM f, treeV a nT c] w8 (Says (.bool q) w8)) := hA1
  have A2 : Hid (∀ U', w8.grownBy U' none → Calls Try.prog 11 #[trsV L (n : Int) ar qR cr 0 am qM cm, treeV a nT c] U' (Says (.bool (!q)) U')) := hA2
  obtain ⟨x0, x1, x2, x3, x4, x5⟩ := BX.out w8 G8.out
  clear h0 hA1 hA2 HAc
  go_wp2_with fail
  clear x0 x1 x2 x3 x4 x5
  refine A1.out.mono ?_
  rintro E w9 ⟨rfl, hg9⟩
  obtain ⟨y0, y1, y2, y3, y4⟩ := BX5.out w9 (grown_trans G58.out hg9)
  obtain ⟨x0, x1, x2, x3, x4, x5⟩ := BX.out w9 (grown_trans G8.out hg9)
  have G9 : Hid (W1.grownBy w9 none) := grown_trans G8.out hg9
  have C9 : Hid (Calls Try.prog 11 #[trsV L (n : Int) ar qR cr 0 am qM cm, treeV a nT c] w9 (Says (.bool (!q)) w9)) := A2.out w9 hg9
  clear hg9
  cases q
  all_goals
    go_wp2_with fail
    refine C9.out.mono ?_
    rintro E w10 ⟨rfl, hg10⟩
    have GF : Hid (w.grownBy w10 none) := grown_trans G1.out (grown_trans G9.out hg10)
    clear hg10
    go_wp2_with fail
    go_ret
    exact ⟨rfl, GF.out⟩

theorem olaw_walk (x : Trs) (b e a : Option Addr) (d f c : Nat) (T : List NodeI) (w : World) (h : TrsAt w x b e) (hT : NodesAt w a T) (hm : T.length ≤ maxLen) (hR : x.R.length * 32 ≤ 140737488355328) (hM : x.M.length ≤ 17592186044416) (hn : b = none → d = 0) :
    Calls Try.prog 5 #[trsV x.L x.N b x.R.length d x.S e x.M.length f, treeV a T.length c] w (Says (.bool true) w) := by
  have HC : ∀ W, w.grownBy W none → Calls Try.prog 7 #[trsV x.L x.N b x.R.length d x.S e x.M.length f] W (Says (.int .i64 (checkT x)) W) := fun W hW => checkTR_any x b e d f W (h.grown hW)
  have HTs : ∀ W, w.grownBy W none → Calls Try.prog 12 #[trsV x.L x.N b x.R.length d x.S e x.M.length f] W (TreesPost x W) := fun W hW => trees_any x b e d f W (h.grown hW) hR hM hn
  by_cases hc : checkT x = 0
  case neg =>
    refine olaw_bad x.L x.N x.S b e a x.R.length d x.M.length f T.length c (checkT x) (checkT x) w hc (fun h0 => absurd h0 hc) (fun _ => rfl) ?_ HC
    intro W hW
    refine (HTs W hW).mono fun E W' hp => ?_
    obtain ⟨b', e', d', f', h1, h2, h3⟩ := hp
    exact ⟨b', e', d', f', h1, fun V hV => other_bad x b' e' d' f' V (h2.grown hV) hc, h3⟩
  rw [hc] at HC
  by_cases hs : 6 < x.N ∨ 2 < x.L
  · refine olaw_bad x.L x.N x.S b e a x.R.length d x.M.length f T.length c 1 0 w (by omega) (fun _ => ⟨hs, rfl⟩) (fun h0 => absurd rfl h0) ?_ HC
    intro W hW
    refine (HTs W hW).mono fun E W' hp => ?_
    obtain ⟨b', e', d', f', h1, h2, h3⟩ := hp
    exact ⟨b', e', d', f', h1, fun V hV => other_size x b' e' d' f' V (h2.grown hV) hc hs, h3⟩
  have hG := goodT_of_check hc
  have l1 := hG.l1
  have n1 := hG.n1
  obtain ⟨L, hL⟩ : ∃ L : Nat, x.L = L := ⟨x.L.toNat, by omega⟩
  obtain ⟨N, hN⟩ : ∃ N : Nat, x.N = N := ⟨x.N.toNat, by omega⟩
  refine olaw_good x.L x.N x.S b e a x.R.length d x.M.length f T.length c (treeF x.L T) w (by omega) (by omega) ?_ HC (fun W hW => treeR_any x.L T a c W (hT.grown hW) hm)
  intro W hW
  refine (HTs W hW).mono fun E W' hp => ?_
  obtain ⟨b', e', d', f', h1, h2, h3⟩ := hp
  refine ⟨b', e', d', f', h1, fun V hV => ?_, h3⟩
  refine (other_good x b' e' d' f' V (h2.grown hV) hc L N hL hN (by omega) (by omega)).mono fun E V' hq => ?_
  obtain ⟨X, ar, cr, am, cm, hCl, hAr, k1, k2, k3⟩ := hq
  have hgo : GoodT (othT x X L) := oth_good (N := N) hG hL hCl (hAr.len (by omega)) (by omega)
  refine ⟨X.length, _, _, cr, cm, ar, am, k1, fun U hU => ?_, fun ht U hwU hU => ⟨accTB x T, ?_, fun U' hU' => ?_⟩, k3⟩
  · have := checkTR_any (othT x X L) ar am cr cm U (k2.grown hU)
    rw [check_of_good hgo] at this
    exact this
  · exact acceptsR_any x b e a d f c T U (h.grown hwU) (hT.grown hwU) hG (goodNd_of_tree ht)
  · have := acceptsR_any (othT x X L) ar am a cr cm c T U' (k2.grown (grown_trans hU hU')) (hT.grown (grown_trans hwU hU')) hgo (goodNd_of_tree ht)
    rw [oth_acc hG hL hN hCl (goodNd_of_tree ht)] at this
    exact this

theorem other_own : ownKnob Try.prog.godebug = none := by kernel_rfl

set_option maxRecDepth 100000 in
theorem other_lifted (os : Os) (started : os.Started) (H : Type) (enc : TypeId × Value → H) :
    ReturnsInHanded {} Try.checked os 5 .any (Rows.treeOtherSpec.pre6 enc Try.prog Try.f5 Rows.treeOtherRow.domain false) (Rows.treeOtherSpec.post enc Try.prog Try.f5 false true false false) := by
  refine returnsInHanded_of_change_sized (C := Try.checked) other_own started (by kernel_rfl) Try.func5
    (ChangeSpec.witness6 (enc := enc) (C := Try.checked) false ⟨#[], #[.agg #[.int .i64 0, .int .i64 0, .slice none 0 0, .int .i64 0, .slice none 0 0], .agg #[.slice none 0 0]], []⟩ 8 (by kernel_rfl) (by kernel_rfl) (by kernel_rfl) (by kernel_rfl)) ?_
  intro W base args ds gs before hval0 hW hcnd hsz0 _
  have hval : ∀ (j : Nat) t v, Try.f5.params[j]? = some t → args[j]? = some v → Value.okWide Try.prog W .any base t v := hval0
  have hsz : (DataW.weightsEach Try.prog (Try.f5.params.toList ++ Rows.treeOtherSpec.plain.varTypes Try.prog) (ds ++ gs)).all (· ≤ reachBytes) = true := hsz0
  have hW' := hW
  obtain ⟨p, q, hA0, hV, rfl, hfz, hnd⟩ := hW
  have hA : DataW.TrodAll enc Try.prog W 0 (fun _ => true) true Try.f5.params.toList args.toList ds p := hA0
  rw [Try.params5] at hA hval hsz
  obtain ⟨v0, vs0, d0, ds0, p0, q0, hargs, rfl, rfl, h0, r0⟩ := trodAll_cons hA
  obtain ⟨v1, vs1, d1, ds1, p1, q1, rfl, rfl, rfl, h1, r1⟩ := trodAll_cons r0
  obtain ⟨rfl, rfl, rfl⟩ := trodAll_nil r1
  obtain rfl : args = #[v0, v1] := by cases args; simp_all
  obtain ⟨rfl, rfl⟩ := trodVars_none hV
  have lt0 : ∀ x ∈ p0, x.block < W.heap.size := by obtain ⟨m, hm⟩ := h0; exact DataW.trod_lt m _ _ _ hm
  have lt1 : ∀ x ∈ p1, x.block < W.heap.size := by obtain ⟨m, hm⟩ := h1; exact DataW.trod_lt m _ _ _ hm
  have hw0 : ∀ m ∈ d0.weights Try.prog 25, m ≤ reachBytes := fun m hm => by
    have := List.all_eq_true.1 hsz m (DataW.weights_mem_each (j := 0) rfl rfl m hm)
    simpa using this
  obtain ⟨x, b, e, d, f, rfl, hD, hR, hM, hn⟩ := trs_sized (hval 0 25 v0 rfl rfl) h0 hw0
  obtain ⟨T, a, c, rfl, hT, hTm⟩ := tree_of_trod (hval 1 28 v1 rfl rfl) h1
  clear hA0 hval0 hsz0
  refine (olaw_walk x b e a d f c T W hD hT hTm hR hM hn).mono fun E W' ⟨he, hg⟩ => ?_
  subst he
  have bel : Below W.heap.size W W' := below_of_grown hg
  exact ⟨_, rfl, _, _, _, [], _, [], hW', trodAll_mk1 (shut_bool Try.underlying4 _), (trodAll_cons_mk (Below.trod Try.laidOut (by kernel_rfl) (of_decide_eq_true (by kernel_rfl)) h0 bel lt0) (trodAll_cons_mk (Below.trod Try.laidOut (by kernel_rfl) (of_decide_eq_true (by kernel_rfl)) h1 bel lt1) trodAll_mk0)), rfl, bel.frame _, fun h => by cases h⟩

theorem treeOther_holds : Rows.TreeOtherSaid :=
  OpenClaim.holds_of_wide 5 Try.f5 rfl rfl rfl rfl rfl rfl rfl ⟨rfl, rfl, rfl, rfl, rfl⟩ rfl rfl rfl rfl rfl (by kernel_rfl) Try.func5 (by kernel_rfl)
    (of_decide_eq_true (by kernel_rfl)) (by unfold Func.isWrapper; first | (rw [if_pos (by decide +kernel)]; kernel_rfl) | (rw [if_neg (by decide +kernel)]; exact ⟨rfl, rfl⟩))
    (fun os started H enc _ => other_lifted os started H enc)
#print axioms treeOther_holds

end Go.Proofs.Ytofjmakmbmndoaa
