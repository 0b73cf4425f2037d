/- The tree that the grower's moves make: the program's grown. (Written by wip/tools/gwgrn.py out of GwGrn.src.) -/
import Derived.Test.YtnlkdihfoekjmaaGwGrnD
namespace Go.Proofs.Ytnlkdihfoekjmaa
open Go.RowKit
set_option linter.unusedVariables false
set_option linter.unusedSimpArgs false
attribute [local go_sem ↓] app_fold

def castN (l : List Nat) : List Int := l.map (fun (n : Nat) => (n : Int))
theorem castN_len (l : List Nat) : (castN l).length = l.length := by simp [castN]
theorem castN_get {l : List Nat} {i : Nat} (h : i < l.length) : (castN l).getD i 0 = ((l.getD i 0 : Nat) : Int) := by simp [castN, List.getD, h]
def GrownPost (x : Trs) (N : Nat) (W M : Nat → Int) (w : World) (E : Ending) (w' : World) : Prop :=
  ∃ (X : List Nat) (Lt : List Int) (Lf Rg : List Nat) (a0 a1 a2 a3 : Option Addr) (c0 c1 c2 c3 : Nat), E = .returned (.agg #[.slice a0 X.length c0, .slice a1 X.length c1, .slice a2 X.length c2, .slice a3 X.length c3]) ∧ GrwI x N W M X Lt Lf Rg X.length ∧ Ints w' a0 Lt ∧ Ints w' a1 (castN X) ∧ Ints w' a2 (castN Lf) ∧ Ints w' a3 (castN Rg) ∧ w.grownBy w' none
theorem ints_own {B : Nat} {w : World} {r : List Item} {a : Option Addr} {n c : Nat} {zs : List Int} (h : Owns B w ((3, .slice a n c, vals zs) :: r)) : Ints w a zs := by
  by_cases h0 : zs.length = 0
  · left; exact List.length_eq_zero_iff.1 h0
  · right
    obtain ⟨g, cap, e, _⟩ := h.form (by rw [vals_len]; omega)
    cases e
    exact ⟨g, 0, rfl, fun i hi => by rw [Nat.zero_add]; exact h.cell (by simp [vals, List.getD, hi])⟩
/-- The boxes that are made first. -/
theorem grown_start (w : World) (s : Nat) : GrB w w.heap.size (w.heap.size + 1 + 1) w.heap.size nilV (.slice (some ⟨w.heap.size + 1, 0, none⟩) 1 1) nilV nilV [] [s] [] [] (((w.alloc (.cells #[nilV, nilV, nilV, nilV] 28)).alloc (.cells #[.int .i64 (s : Int)] 3)).alloc (.cells #[nilV, .slice (some ⟨w.heap.size + 1, 0, none⟩) 1 1, nilV, nilV] 28)) := by
  have o1 := (Owns.no w.heap.size w).made (arr := #[nilV, nilV, nilV, nilV]) (n := 4) (Nat.le_refl _) 28 rfl (by unfold maxLen; omega)
  have o2 := o1.made (arr := #[.int .i64 (s : Int)]) (n := 1) (by simp) 3 rfl (by unfold maxLen; omega)
  have o3 := ((o2.empty 3).empty 3).perm (List.perm_middle (l₁ := [_, _]))
  have o4 := (o3.empty 3).made (arr := #[nilV, .slice (some ⟨w.heap.size + 1, 0, none⟩) 1 1, nilV, nilV]) (n := 4) (by simp; omega) 28 rfl (by unfold maxLen; omega)
  rw [World.size_alloc, World.size_alloc] at o4
  exact ⟨o4, grown_trans (grown_alloc _ _) (grown_trans (grown_alloc _ _) (grown_alloc _ _)), Nat.le_refl _, by simp; omega⟩

/-- What a round reads first. -/
def SG5 (k0 gb bm g1 p s : Nat) (v0 v1 v2 v3 v4 u um : Value) (q : Int) (W : World) : Prop := W.cell? ⟨k0, 0, none⟩ = some v0 ∧ W.cell? ⟨k0, 1, none⟩ = some v1 ∧ W.cell? ⟨k0, 2, none⟩ = some v2 ∧ W.cell? ⟨k0, 3, none⟩ = some v3 ∧ W.cell? ⟨k0, 4, none⟩ = some v4 ∧ W.cell? ⟨k0 + 1, 1, none⟩ = some um ∧ W.cell? ⟨gb, 1, none⟩ = some u ∧ W.cell? ⟨g1, p, none⟩ = some (.int .i64 (s : Int)) ∧ W.cell? ⟨bm, s, none⟩ = some (.int .i64 q)
theorem SG5.kept {k0 gb bm g1 p s : Nat} {v0 v1 v2 v3 v4 u um : Value} {q : Int} {W W' : World} (h : SG5 k0 gb bm g1 p s v0 v1 v2 v3 v4 u um q W) (hg : W.grownBy W' none) : SG5 k0 gb bm g1 p s v0 v1 v2 v3 v4 u um q W' := by
  obtain ⟨h0, h1, h2, h3, h4, h5, h6, h7, h8⟩ := h
  exact ⟨hg.cell h0 (by simp), hg.cell h1 (by simp), hg.cell h2 (by simp), hg.cell h3 (by simp), hg.cell h4 (by simp), hg.cell h5 (by simp), hg.cell h6 (by simp), hg.cell h7 (by simp), hg.cell h8 (by simp)⟩
def SG7 (br j : Nat) (lf : Nat) (W : World) : Prop := W.cell? ⟨br, j, none⟩ = some (.int .i64 (lf : Int))
theorem SG7.kept {br j lf : Nat} {W W' : World} (h : SG7 br j lf W) (hg : W.grownBy W' none) : SG7 br j lf W' := hg.cell h (by simp)
theorem SG7.ru {br lf : Nat} {W : World} {cs : Array Value} (h : W.heap[br]? = some (.cells cs 47 (0, 0))) {j : Nat} (hc : cs[j]? = some (.int .i64 (lf : Int))) : SG7 br j lf W := by
  show W.cell? _ = _
  rw [cell_of_row _ _ j _ _ (0, 0) h]; exact hc
/-- A box of four that is made ahead, and written. -/
theorem rule_store {W : World} {B : Nat} (h : W.heap[B]? = some (.cells #[.int .i64 0, .int .i64 0, .int .i64 0, .int .i64 0] 47 (0, 0))) (v0 v1 v2 v3 : Value) :
    (∀ j, j < 4 → W.cell? ⟨B, j, none⟩ = some (.int .i64 0)) ∧ (∀ j, W.frozen? ⟨B, j, none⟩ = false) ∧ ∃ W', W' = (((W.setCell ⟨B, 0, none⟩ v0).setCell ⟨B, 1, none⟩ v1).setCell ⟨B, 2, none⟩ v2).setCell ⟨B, 3, none⟩ v3 ∧ W.grownBy W' (some B) ∧ W'.heap[B]? = some (.cells #[v0, v1, v2, v3] 47 (0, 0)) := by
  have h1 := heap_setCell_same W B 0 _ _ v0 h
  have h2 := heap_setCell_same _ B 1 _ _ v1 h1
  have h3 := heap_setCell_same _ B 2 _ _ v2 h2
  have h4 := heap_setCell_same _ B 3 _ _ v3 h3
  refine ⟨fun j hj => ?_, fun j => frozen_of_row _ _ _ _ _ h, _, rfl, grown_trans (grown_set _ _ _) (grown_trans (grown_set _ _ _) (grown_trans (grown_set _ _ _) (grown_set _ _ _))), by simpa using h4⟩
  rw [cell_of_row _ _ j _ _ (0, 0) h]
  match j, hj with
  | 0, _ => rfl
  | 1, _ => rfl
  | 2, _ => rfl
  | 3, _ => rfl
def MidG5 (Wb : World) (B gb gr : Nat) (u0 u1 u2 u3 : Value) (Lt : List Int) (X Lf Rg : List Nat) (cs : Array Value) (v : Value) (W : World) : Prop :=
  ∃ br, v = .pointer (some ⟨br, 0, none⟩) ∧ W.heap[br]? = some (.cells cs 47 (0, 0)) ∧ GrB Wb B gb gr u0 u1 u2 u3 Lt X Lf Rg W
def MidG7 (Wb : World) (B gb gr br : Nat) (u0 u3 : Value) (Lt : List Int) (X Lf Rg : List Nat) (cs : Array Value) (W : World) : Prop :=
  ∃ u1 u2, W.heap[br]? = some (.cells cs 47 (0, 0)) ∧ GrB Wb B gb gr u0 u1 u2 u3 Lt X Lf Rg W

set_option maxHeartbeats 12800000 in
set_option maxRecDepth 100000 in
theorem grown_any (x : Trs) (b e : Option Addr) (d f N bw bm : Nat) (W M : Nat → Int) (w : World) (h : TrsAt w x b e) (hG : GoodW x) (hN : x.N = N) (hs : GwS x N W M) (hV : IRow w bm (N + x.R.length) (N + x.R.length) (mvW x N W M)) (hW0 : W x.S.toNat = 0) :
    Calls Try.prog 13 #[trsV x.L x.N b x.R.length d x.S e x.M.length f, .agg #[.slice (some ⟨bw, 0, none⟩) (N + x.R.length) (N + x.R.length), .slice (some ⟨bm, 0, none⟩) (N + x.R.length) (N + x.R.length)]] w (GrownPost x N W M w) := by
  have h6 := hG.n6
  have hr6 := hG.r6
  have hst := hG.st
  have HG : Hid (GoodW x) := hG
  have HNx : Hid (x.N = N) := hN
  have HS : Hid (GwS x N W M) := hs
  have HR : Hid (∀ V, w.grownBy V none → RulesAt V b x.R) := fun V hV => (h.grown hV).rules
  have HV : Hid (∀ V, w.grownBy V none → IRow V bm (N + x.R.length) (N + x.R.length) (mvW x N W M)) := fun V hVV => hV.kept hVV
  rw [hN] at h6 hst ⊢
  have G0 : Hid (GrwI x N W M [x.S.toNat] [] [] [] 0) := GrwI.start hG hN hW0
  obtain ⟨s0, hs0⟩ : ∃ s0 : Nat, x.S.toNat = s0 := ⟨_, rfl⟩
  have hS : x.S = (s0 : Int) := by omega
  rw [hs0] at G0
  obtain ⟨Po, hPo⟩ : ∃ Po, Po = GrownPost x N W M w := ⟨_, rfl⟩
  have HPo : Hid (Po = GrownPost x N W M w) := hPo
  rw [← hPo]
  obtain ⟨nR, hnR⟩ : ∃ nR, x.R.length = nR := ⟨_, rfl⟩
  have HnR : Hid (x.R.length = nR) := hnR
  rw [hnR] at hr6 HV ⊢
  obtain ⟨n, hn⟩ : ∃ n, N + nR = n := ⟨_, rfl⟩
  have HN : Hid (N + nR = n) := hn
  have hNn : N ≤ n := by omega
  rw [hn] at HV ⊢
  rw [hS]
  have CRu : Hid (∀ V i, w.grownBy V none → i < nR → Calls Try.prog 25 #[trsV x.L (N : Int) b nR d (s0 : Int) e x.M.length f, .int .i64 ((N + i : Nat) : Int)] V (Says (ruleV (x.R.getD i ru0)) V)) := fun V i hVV hi => by
    have := ruleAt_any x.R x.L (s0 : Int) N d x.M.length f i b e V (HR.out V hVV) (by rw [hnR]; exact hi) (by omega) (by rw [hnR]; omega)
    rw [hnR] at this
    exact this
  obtain ⟨Wa, hWa, ga, sa, bx⟩ := box5_new w (.int .i64 x.L) (.int .i64 (N : Int)) (.slice b nR d) (.int .i64 (s0 : Int)) (.slice e x.M.length f) 25
  obtain ⟨Wb, hWb⟩ : ∃ Wb, Wb = Wa.alloc (.cells #[.slice (some ⟨bw, 0, none⟩) n n, .slice (some ⟨bm, 0, none⟩) n n] 40) := ⟨_, rfl⟩
  have gb : Wa.grownBy Wb none := by rw [hWb]; exact grown_alloc _ _
  have sb : Wb.heap.size = w.heap.size + 1 + 1 := by rw [hWb, World.size_alloc, sa]
  have hbw := heap_alloc_new Wa (.cells #[.slice (some ⟨bw, 0, none⟩) n n, .slice (some ⟨bm, 0, none⟩) n n] 40)
  rw [← hWb, sa] at hbw
  have cw : Wb.cell? ⟨w.heap.size + 1, 1, none⟩ = some (.slice (some ⟨bm, 0, none⟩) n n) := by rw [cell_of_row _ _ 1 _ _ (0, 0) hbw]; rfl
  have GW : Hid (w.grownBy Wb none) := grown_trans ga gb
  have BX : Hid (∀ V, Wb.grownBy V none → V.cell? ⟨w.heap.size, 0, none⟩ = some (.int .i64 x.L) ∧ V.cell? ⟨w.heap.size, 1, none⟩ = some (.int .i64 (N : Int)) ∧ V.cell? ⟨w.heap.size, 2, none⟩ = some (.slice b nR d) ∧ V.cell? ⟨w.heap.size, 3, none⟩ = some (.int .i64 (s0 : Int)) ∧ V.cell? ⟨w.heap.size, 4, none⟩ = some (.slice e x.M.length f) ∧ V.cell? ⟨w.heap.size + 1, 1, none⟩ = some (.slice (some ⟨bm, 0, none⟩) n n)) := fun V hVV => by
    obtain ⟨a0, a1, a2, a3, a4⟩ := bx V (grown_trans gb hVV)
    exact ⟨a0, a1, a2, a3, a4, hVV.cell cw (by simp)⟩
  have D0 := grown_start Wb s0
  obtain ⟨Wd, hWd⟩ : ∃ Wd, Wd = ((Wb.alloc (.cells #[nilV, nilV, nilV, nilV] 28)).alloc (.cells #[.int .i64 (s0 : Int)] 3)).alloc (.cells #[nilV, .slice (some ⟨Wb.heap.size + 1, 0, none⟩) 1 1, nilV, nilV] 28) := ⟨_, rfl⟩
  rw [← hWd, sb] at D0
  have GM0 : Hid (GrB Wb (w.heap.size + 1 + 1) (w.heap.size + 1 + 1 + 1 + 1) (w.heap.size + 1 + 1) nilV (.slice (some ⟨w.heap.size + 1 + 1 + 1, 0, none⟩) 1 1) nilV nilV [] [s0] [] [] Wd) := D0
  obtain ⟨x0, x1, x2, x3, x4, x5⟩ := BX.out Wd D0.gr
  rw [sb, hWb, hWa] at hWd
  have HWd : Hid (Wd = _) := hWd
  rw [hWd] at x0 x1 x2 x3 x4 x5
  clear h hG hN hs hV hW0 hPo hnR hn ga gb sa sb bx D0 hWd hWb hWa hbw cw hS hs0 hst
  generalize hk0 : w.heap.size = k0 at *
  generalize x.M.length = nM at *
  go_enter Try.func13, Try.ntmps13
  go_wp2_with fail
  rw [← HWd.out]
  clear x0 x1 x2 x3 x4 x5
  go_loopw [6] (fun v wr => ∃ (p : Nat) (u0 u1 u2 u3 : Value) (X : List Nat) (Lt : List Int) (Lf Rg : List Nat), v = .int .i64 p ∧ GrwI x N W M X Lt Lf Rg p ∧ GrB Wb (k0 + 1 + 1) (k0 + 1 + 1 + 1 + 1) (k0 + 1 + 1) u0 u1 u2 u3 Lt X Lf Rg wr) (fun v _ => N - (intOf v).toNat)
  case atStart => exact ⟨0, _, _, _, _, [s0], [], [], [], rfl, G0.out, GM0.out⟩
  case round =>
    clear GM0 G0
    obtain ⟨p, u0, u1, u2, u3, X, Lt, Lf, Rg, rfl, hgi, hgm⟩ := hrel
    have GI : Hid (GrwI x N W M X Lt Lf Rg p) := hgi
    have GM : Hid (GrB Wb (k0 + 1 + 1) (k0 + 1 + 1 + 1 + 1) (k0 + 1 + 1) u0 u1 u2 u3 Lt X Lf Rg wr) := hgm
    obtain ⟨a1, c1, rfl, hX⟩ := hgm.formX
    have hXN : X.length ≤ N := hgi.len
    have hl1 := hgi.l1
    have hl2 := hgi.l2
    have hl3 := hgi.l3
    obtain ⟨b0, b1, b2, b3⟩ := hgm.cells
    by_cases hpX : p < X.length
    · have hpi : (p : Int) < (X.length : Int) := by omega
      obtain ⟨g1, rfl, cX⟩ := hX p hpX
      have hmem := getD_memW hpX
      obtain ⟨hsN, hsW⟩ := hgi.lt _ hmem
      obtain ⟨i, i1, i2, i3, i4, i5, i6⟩ := grow_state HG.out HNx.out HS.out hsN hsW
      have hstep := hgi.step HG.out HNx.out hpX i1 i2 i3 i5 i6
      have GI2 : Hid _ := hstep
      rw [HnR.out] at i1
      obtain ⟨s, hs⟩ : ∃ s, X.getD p 0 = s := ⟨_, rfl⟩
      rw [hs] at cX hsN hsW i3
      have hmv : mvW x N W M s = ((N + i : Nat) : Int) := by
        show (if (gwG x N).own s ≠ W s then -1 else M s) = _
        rw [own_state hsN, hsW, if_neg (by decide), i3]
      have cM := (HV.out wr (grown_trans GW.out hgm.gr)).cell (i := s) (by omega)
      rw [hmv] at cM
      have hsn : (s : Int) < (n : Int) := by omega
      obtain ⟨y0, y1, y2, y3, y4, y5⟩ := BX.out wr hgm.gr
      have S5 : Hid (SG5 k0 (k0 + 1 + 1 + 1 + 1) bm g1 p s (.int .i64 x.L) (.int .i64 (N : Int)) (.slice b nR d) (.int .i64 (s0 : Int)) (.slice e nM f) (.slice (some ⟨g1, 0, none⟩) X.length c1) (.slice (some ⟨bm, 0, none⟩) n n) ((N + i : Nat) : Int) wr) := ⟨y0, y1, y2, y3, y4, y5, b1, cX, cM⟩
      obtain ⟨_, _, _, f4, f5, f6⟩ := HG.out.rule HNx.out (by rw [HnR.out]; exact i1)
      have CR : Hid (∀ V, w.grownBy V none → Calls Try.prog 25 #[trsV x.L (N : Int) b nR d (s0 : Int) e nM f, .int .i64 ((N + i : Nat) : Int)] V (Says (.agg #[.int .i64 (x.R.getD i ru0).1, .int .i64 (lfW x i : Int), .int .i64 (rgW x i : Int), .int .i64 (toW x i : Int)]) V)) := fun V hVV => by
        have := CRu.out V i hVV i1
        unfold ruleV at this
        rwa [f4, f5, f6] at this
      obtain ⟨lt, hlt⟩ : ∃ lt, (x.R.getD i ru0).1 = lt := ⟨_, rfl⟩
      obtain ⟨lf, hlf⟩ : ∃ lf, lfW x i = lf := ⟨_, rfl⟩
      obtain ⟨rg, hrg⟩ : ∃ rg, rgW x i = rg := ⟨_, rfl⟩
      obtain ⟨tq, htq⟩ : ∃ tq, toW x i = tq := ⟨_, rfl⟩
      rw [hlt, hlf, hrg] at GI2
      rw [hlt, hlf, hrg, htq] at CR
      obtain ⟨q, hq⟩ : ∃ q, N + i = q := ⟨_, rfl⟩
      rw [hq] at S5 CR
      have SS : Hid (∀ V, wr.grownBy V none → SG5 k0 (k0 + 1 + 1 + 1 + 1) bm g1 p s (.int .i64 x.L) (.int .i64 (N : Int)) (.slice b nR d) (.int .i64 (s0 : Int)) (.slice e nM f) (.slice (some ⟨g1, 0, none⟩) X.length c1) (.slice (some ⟨bm, 0, none⟩) n n) (q : Int) V) := fun V hVV => S5.out.kept hVV
      have GWr : Hid (w.grownBy wr none) := grown_trans GW.out hgm.gr
      -- the box of the rule, made ahead or behind
      have HA : Hid (∀ w7, (wr.drew).grownBy w7 none → MidG5 Wb (k0 + 1 + 1) (k0 + 1 + 1 + 1 + 1) (k0 + 1 + 1) u0 (.slice (some ⟨g1, 0, none⟩) X.length c1) u2 u3 Lt X Lf Rg #[.int .i64 lt, .int .i64 (lf : Int), .int .i64 (rg : Int), .int .i64 (tq : Int)] (.pointer (some ⟨w7.heap.size, 0, none⟩)) (w7.alloc (.cells #[.int .i64 lt, .int .i64 (lf : Int), .int .i64 (rg : Int), .int .i64 (tq : Int)] 47))) := fun w7 hg7 => ⟨_, rfl, heap_alloc_new _ _, GM.out.kept (grown_trans (grown_trans (grown_drew (grown_refl _ _)) hg7) (grown_alloc _ _))⟩
      have HB : Hid (∀ w7, ((wr.drew).alloc (.cells #[.int .i64 0, .int .i64 0, .int .i64 0, .int .i64 0] 47)).grownBy w7 none → (∀ j, j < 4 → w7.cell? ⟨wr.heap.size, j, none⟩ = some (.int .i64 0)) ∧ (∀ j, w7.frozen? ⟨wr.heap.size, j, none⟩ = false) ∧ ∃ W9, W9 = (((w7.setCell ⟨wr.heap.size, 0, none⟩ (.int .i64 lt)).setCell ⟨wr.heap.size, 1, none⟩ (.int .i64 (lf : Int))).setCell ⟨wr.heap.size, 2, none⟩ (.int .i64 (rg : Int))).setCell ⟨wr.heap.size, 3, none⟩ (.int .i64 (tq : Int)) ∧ Hid (wr.grownBy W9 none) ∧ Hid (MidG5 Wb (k0 + 1 + 1) (k0 + 1 + 1 + 1 + 1) (k0 + 1 + 1) u0 (.slice (some ⟨g1, 0, none⟩) X.length c1) u2 u3 Lt X Lf Rg #[.int .i64 lt, .int .i64 (lf : Int), .int .i64 (rg : Int), .int .i64 (tq : Int)] (.pointer (some ⟨wr.heap.size, 0, none⟩)) W9)) := fun w7 hg7 => by
        have hb : w7.heap[wr.heap.size]? = some (.cells #[.int .i64 0, .int .i64 0, .int .i64 0, .int .i64 0] 47 (0, 0)) := by
          rw [hg7.block _ (by rw [World.size_alloc]; exact Nat.lt_succ_self _) (by simp)]
          exact heap_alloc_new wr.drew _
        obtain ⟨r1, r2, W9, hW9, g9, h9⟩ := rule_store hb (.int .i64 lt) (.int .i64 (lf : Int)) (.int .i64 (rg : Int)) (.int .i64 (tq : Int))
        have gg : wr.grownBy W9 none := grown_new (grown_trans (grown_trans (grown_drew (grown_refl _ _)) (grown_alloc _ _)) hg7) g9 (Nat.le_refl _)
        exact ⟨r1, r2, W9, hW9, gg, _, rfl, h9, GM.out.kept gg⟩
      clear hX cX cM hmv hmem hstep hgi hgm y0 y1 y2 y3 y4 y5 f4 f5 f6 hlt hlf hrg htq hq hs hsW i1 i2 i3 i4 i5 i6 b0 b2 b3 CRu
      go_wp2_with fail
      clear b1
      go_cut [7] (fun v wc => MidG5 Wb (k0 + 1 + 1) (k0 + 1 + 1 + 1 + 1) (k0 + 1 + 1) u0 (.slice (some ⟨g1, 0, none⟩) X.length c1) u2 u3 Lt X Lf Rg #[.int .i64 lt, .int .i64 (lf : Int), .int .i64 (rg : Int), .int .i64 (tq : Int)] v wc)
      case first =>
        refine wp_region_held_drew (S := SG5 k0 (k0 + 1 + 1 + 1 + 1) bm g1 p s (.int .i64 x.L) (.int .i64 (N : Int)) (.slice b nR d) (.int .i64 (s0 : Int)) (.slice e nM f) (.slice (some ⟨g1, 0, none⟩) X.length c1) (.slice (some ⟨bm, 0, none⟩) n n) (q : Int)) (by kernel_rfl) (S5.out.kept (grown_drew (grown_refl _ _))) (fun hHeld => ?_)
        refine wpAnyH_take (i := 0) (v := ?_) rfl (by kernel_rfl) (by kernel_rfl) (by kernel_rfl) (fun _ _ _ h => h) (Or.inl ⟨by rfl, ?_⟩) (by assumption) ?_
        rotate_left
        · intro W hSw
          obtain ⟨t1, t2, t3, t4, t5, t6, t7, t8, t9⟩ := hSw
          go_simp
          with_reducible rfl
        try simp only [Act.put, List.setIfInBounds_toArray, List.set_cons_zero, List.set_cons_succ]
        refine wpAnyH_take (i := 1) (v := ?_) rfl (by kernel_rfl) (by kernel_rfl) (by kernel_rfl) (fun _ _ _ h => h) (Or.inl ⟨by rfl, ?_⟩) (by assumption) ?_
        rotate_left
        · intro W hSw
          obtain ⟨t1, t2, t3, t4, t5, t6, t7, t8, t9⟩ := hSw
          go_simp
          with_reducible rfl
        try simp only [Act.put, List.setIfInBounds_toArray, List.set_cons_zero, List.set_cons_succ]
        refine wpAnyH_take (i := 2) (v := ?_) rfl (by kernel_rfl) (by kernel_rfl) (by kernel_rfl) (fun _ _ _ h => h) (Or.inl ⟨by rfl, ?_⟩) (by assumption) ?_
        rotate_left
        · intro W hSw
          obtain ⟨t1, t2, t3, t4, t5, t6, t7, t8, t9⟩ := hSw
          go_simp
          with_reducible rfl
        try simp only [Act.put, List.setIfInBounds_toArray, List.set_cons_zero, List.set_cons_succ]
        refine wpAnyH_take (i := 3) (v := ?_) rfl (by kernel_rfl) (by kernel_rfl) (by kernel_rfl) (fun _ _ _ h => h) (Or.inl ⟨by rfl, ?_⟩) (by assumption) ?_
        rotate_left
        · intro W hSw
          obtain ⟨t1, t2, t3, t4, t5, t6, t7, t8, t9⟩ := hSw
          go_simp
          with_reducible rfl
        try simp only [Act.put, List.setIfInBounds_toArray, List.set_cons_zero, List.set_cons_succ]
        refine wpAnyH_take (i := 4) (v := ?_) rfl (by kernel_rfl) (by kernel_rfl) (by kernel_rfl) (fun _ _ _ h => h) (Or.inl ⟨by rfl, ?_⟩) (by assumption) ?_
        rotate_left
        · intro W hSw
          obtain ⟨t1, t2, t3, t4, t5, t6, t7, t8, t9⟩ := hSw
          go_simp
          with_reducible rfl
        try simp only [Act.put, List.setIfInBounds_toArray, List.set_cons_zero, List.set_cons_succ]
        refine wpAnyH_take (i := 5) (v := ?_) rfl (by kernel_rfl) (by kernel_rfl) (by kernel_rfl) (fun _ _ _ h => h) (Or.inl ⟨by rfl, ?_⟩) (by assumption) ?_
        rotate_left
        · intro W hSw
          obtain ⟨t1, t2, t3, t4, t5, t6, t7, t8, t9⟩ := hSw
          go_simp
          with_reducible rfl
        try simp only [Act.put, List.setIfInBounds_toArray, List.set_cons_zero, List.set_cons_succ]
        refine wpAnyH_take (i := 6) (v := ?_) rfl (by kernel_rfl) (by kernel_rfl) (by kernel_rfl) (fun _ _ _ h => h) (Or.inl ⟨by rfl, ?_⟩) (by assumption) ?_
        rotate_left
        · intro W hSw
          obtain ⟨t1, t2, t3, t4, t5, t6, t7, t8, t9⟩ := hSw
          go_simp
          with_reducible rfl
        try simp only [Act.put, List.setIfInBounds_toArray, List.set_cons_zero, List.set_cons_succ]
        refine wpAnyH_take (i := 7) (v := ?_) rfl (by kernel_rfl) (by kernel_rfl) (by kernel_rfl) (fun _ _ _ h => h) (Or.inl ⟨by rfl, ?_⟩) (by assumption) ?_
        rotate_left
        · intro W hSw
          obtain ⟨t1, t2, t3, t4, t5, t6, t7, t8, t9⟩ := hSw
          go_simp
          with_reducible rfl
        try simp only [Act.put, List.setIfInBounds_toArray, List.set_cons_zero, List.set_cons_succ]
        refine wpAnyH_take (i := 8) (v := ?_) rfl (by kernel_rfl) (by kernel_rfl) (by kernel_rfl) (fun _ _ _ h => h) (Or.inl ⟨by rfl, ?_⟩) (by assumption) ?_
        rotate_left
        · intro W hSw
          obtain ⟨t1, t2, t3, t4, t5, t6, t7, t8, t9⟩ := hSw
          go_simp
          with_reducible rfl
        try simp only [Act.put, List.setIfInBounds_toArray, List.set_cons_zero, List.set_cons_succ]
        refine wpAnyH_take (i := 9) (v := ?_) rfl (by kernel_rfl) (by kernel_rfl) (by kernel_rfl) (fun _ _ _ h => h) (Or.inl ⟨by rfl, ?_⟩) (by assumption) ?_
        rotate_left
        · intro W hSw
          obtain ⟨t1, t2, t3, t4, t5, t6, t7, t8, t9⟩ := hSw
          go_simp
          with_reducible rfl
        try simp only [Act.put, List.setIfInBounds_toArray, List.set_cons_zero, List.set_cons_succ]
        refine wpAnyH_ready (rs := [10, 11]) (by kernel_rfl) (by simp) ?_
        refine AllReadyH.cons (o := _) rfl (fun K' hK => ?_) ?_
        · go_simp
          refine (CR.out _ (grown_trans GWr.out (by first | exact grown_drew (grown_refl _ _) | exact grown_trans (grown_drew (grown_refl _ _)) (grown_alloc _ _)))).mono ?_
          rintro E w7 ⟨rfl, hg7⟩
          first
          | (have M7 : Hid _ := HA.out w7 hg7
             have G7 : Hid (∀ o, wr.grownBy (w7.alloc o) none) := fun o => grown_trans (grown_trans (grown_drew (grown_refl _ _)) hg7) (grown_alloc _ _))
          | (have hb7 := HB.out w7 hg7
             obtain ⟨r1, r2, W9, hW9, G9, M9⟩ := hb7
             have z0 := r1 0 (by omega)
             have z1 := r1 1 (by omega)
             have z2 := r1 2 (by omega)
             have z3 := r1 3 (by omega)
             have HW9 : Hid (W9 = _) := hW9
             clear hW9 r1)
          go_wp2_with fail
          refine hK.out _ _ (hHeld.kept hg7) (fun hHeld => ?_)
          clear hK K'
          try simp only [Act.put, List.setIfInBounds_toArray, List.set_cons_zero, List.set_cons_succ]
          refine wpAnyH_ready (rs := [11]) (by kernel_rfl) (by simp) ?_
          refine AllReadyH.cons (o := _) rfl (fun K' hK => ?_) ?_
          · go_simp
            refine hK.out _ _ (hHeld.kept (grown_alloc _ _)) (fun hHeld => ?_)
            clear hK K'
            try simp only [Act.put, List.setIfInBounds_toArray, List.set_cons_zero, List.set_cons_succ]
            refine wpAnyH_ready (rs := [12]) (by kernel_rfl) (by simp) ?_
            refine AllReadyH.cons (o := _) rfl (fun K' hK => ?_) ?_
            · go_simp
              try rw [← HW9.out]
              refine hK.out _ _ (SS.out _ (by first | exact G7.out _ | exact G9.out)) (fun hHeld => ?_)
              clear hK K'
              try simp only [Act.put, List.setIfInBounds_toArray, List.set_cons_zero, List.set_cons_succ]
              refine wpAnyH_done (by kernel_rfl) ?_ _
              go_wp2_with fail
              go_meet
              case rel => first | exact M7.out | exact M9.out
            exact AllReadyH.nil
          exact AllReadyH.nil
        refine AllReadyH.cons (o := _) rfl (fun K' hK => ?_) ?_
        · go_simp
          refine hK.out _ _ (hHeld.kept (grown_alloc _ _)) (fun hHeld => ?_)
          clear hK K'
          try simp only [Act.put, List.setIfInBounds_toArray, List.set_cons_zero, List.set_cons_succ]
          refine wpAnyH_ready (rs := [10]) (by kernel_rfl) (by simp) ?_
          refine AllReadyH.cons (o := _) rfl (fun K' hK => ?_) ?_
          · go_simp
            refine (CR.out _ (grown_trans GWr.out (by first | exact grown_drew (grown_refl _ _) | exact grown_trans (grown_drew (grown_refl _ _)) (grown_alloc _ _)))).mono ?_
            rintro E w7 ⟨rfl, hg7⟩
            first
            | (have M7 : Hid _ := HA.out w7 hg7
               have G7 : Hid (∀ o, wr.grownBy (w7.alloc o) none) := fun o => grown_trans (grown_trans (grown_drew (grown_refl _ _)) hg7) (grown_alloc _ _))
            | (have hb7 := HB.out w7 hg7
               obtain ⟨r1, r2, W9, hW9, G9, M9⟩ := hb7
               have z0 := r1 0 (by omega)
               have z1 := r1 1 (by omega)
               have z2 := r1 2 (by omega)
               have z3 := r1 3 (by omega)
               have HW9 : Hid (W9 = _) := hW9
               clear hW9 r1)
            go_wp2_with fail
            refine hK.out _ _ (hHeld.kept hg7) (fun hHeld => ?_)
            clear hK K'
            try simp only [Act.put, List.setIfInBounds_toArray, List.set_cons_zero, List.set_cons_succ]
            refine wpAnyH_ready (rs := [12]) (by kernel_rfl) (by simp) ?_
            refine AllReadyH.cons (o := _) rfl (fun K' hK => ?_) ?_
            · go_simp
              try rw [← HW9.out]
              refine hK.out _ _ (SS.out _ (by first | exact G7.out _ | exact G9.out)) (fun hHeld => ?_)
              clear hK K'
              try simp only [Act.put, List.setIfInBounds_toArray, List.set_cons_zero, List.set_cons_succ]
              refine wpAnyH_done (by kernel_rfl) ?_ _
              go_wp2_with fail
              go_meet
              case rel => first | exact M7.out | exact M9.out
            exact AllReadyH.nil
          exact AllReadyH.nil
        exact AllReadyH.nil
      case rest =>
        clear S5 CR HA HB GM SS
        obtain ⟨br, rfl, hRB, hM⟩ := hcut
        have hpN : p < N := by omega
        have HPl : Hid (X.length ≤ 100 ∧ (plX X lf).length ≤ 100) := by
          have h1 := GI2.out.len
          have h2 := plX_len (plX X lf) rg
          exact ⟨by omega, by omega⟩
        have HLn : Hid (Lt.length = p ∧ Lf.length = p ∧ Rg.length = p) := ⟨hl1, hl2, hl3⟩
        clear hl1 hl2 hl3
        -- the letter
        obtain ⟨q1, q2, q3⟩ := one_cell wc (.int .i64 lt) 3
        obtain ⟨ga, ca, w1, r1, y1, z1, M1, _, k1, _⟩ := hM.pushL q1 hM.lz q2 q3 (by rw [HLn.out.1]; omega)
        rw [HLn.out.1] at r1 M1 k1
        have rb1 := k1 _ _ (KpRu.of q1 _ _ hRB)
        obtain ⟨b0, b1, b2, b3⟩ := hM.cells
        have cr0 : wc.cell? ⟨br, 0, none⟩ = some (.int .i64 lt) := by rw [cell_of_row _ _ 0 _ _ (0, 0) hRB]; rfl
        obtain ⟨V1, hV1⟩ : ∃ V1, V1 = w1.setCell ⟨k0 + 1 + 1 + 1 + 1, 0, none⟩ (.slice (some ⟨ga, 0, none⟩) (p + 1) ca) := ⟨_, rfl⟩
        rw [← hV1] at M1 rb1
        have HV1 : Hid (V1 = _) := hV1
        have GM1 : Hid _ := M1
        have RB1 : Hid _ := rb1
        clear hM hRB q1 q2 q3 k1 M1 rb1 hV1
        go_wp2_with fail
        rw [← HV1.out]
        clear r1 y1 z1 b0 b1 b2 b3 cr0
        -- the left one
        have x2 := GM1.out.cells.2.2.1
        have S0 : Hid (SG7 br 1 lf V1) := SG7.ru RB1.out rfl
        have CP : Hid (∀ V, V1.grownBy V none → Calls Try.prog 26 #[.pointer (some ⟨k0 + 1 + 1 + 1 + 1, 0, none⟩), .int .i64 (lf : Int)] V (PlcPost Wb (k0 + 1 + 1) (k0 + 1 + 1 + 1 + 1) (k0 + 1 + 1) (.slice (some ⟨ga, 0, none⟩) (p + 1) ca) u2 u3 (Lt ++ [lt]) X Lf Rg lf V)) := fun V hVV => placeOf_any _ _ _ _ _ _ _ _ _ _ _ _ _ _ (GM1.out.kept hVV) HPl.out.1
        have HAp : Hid (∀ w7 u7, GrB Wb (k0 + 1 + 1) (k0 + 1 + 1 + 1 + 1) (k0 + 1 + 1) (.slice (some ⟨ga, 0, none⟩) (p + 1) ca) u7 u2 u3 (Lt ++ [lt]) (plX X lf) Lf Rg w7 → KpRu V1.drew w7 → w7.cell? ⟨k0 + 1 + 1 + 1 + 1, 2, none⟩ = some u2 ∧ Hid (SG7 br 1 lf w7) ∧ ∃ g4 c4 w8, (AppS #[23, 23] 23 #[u2, .slice (some ⟨w7.heap.size, 0, none⟩) 1 1]).run Try.prog (w7.alloc (.cells #[.int .i64 ((X.idxOf lf : Nat) : Int)] 3)) = .ok (.slice (some ⟨g4, 0, none⟩) (p + 1) c4) w8 ∧ w8.cell? ⟨k0 + 1 + 1 + 1 + 1, 2, none⟩ = some u2 ∧ w8.frozen? ⟨k0 + 1 + 1 + 1 + 1, 2, none⟩ = false ∧ Hid (SG7 br 1 lf w8) ∧ Hid (SG7 br 1 lf (w8.setCell ⟨k0 + 1 + 1 + 1 + 1, 2, none⟩ (.slice (some ⟨g4, 0, none⟩) (p + 1) c4))) ∧
            Hid (MidG7 Wb (k0 + 1 + 1) (k0 + 1 + 1 + 1 + 1) (k0 + 1 + 1) br (.slice (some ⟨ga, 0, none⟩) (p + 1) ca) u3 (Lt ++ [lt]) (plX X lf) (Lf ++ [X.idxOf lf]) Rg #[.int .i64 lt, .int .i64 (lf : Int), .int .i64 (rg : Int), .int .i64 (tq : Int)] (w8.setCell ⟨k0 + 1 + 1 + 1 + 1, 2, none⟩ (.slice (some ⟨g4, 0, none⟩) (p + 1) c4)))) := fun w7 u7 hM7 k7 => by
          have rb7 := k7 _ _ (KpRu.of (grown_drew (grown_refl _ _) : V1.grownBy V1.drew none) _ _ RB1.out)
          obtain ⟨q1, q2, q3⟩ := one_cell w7 (.int .i64 ((X.idxOf lf : Nat) : Int)) 3
          obtain ⟨g4, c4, w8, p1, p2, p3, p4, p5, p6, _⟩ := hM7.pushF q1 hM7.lz q2 q3 (by rw [HLn.out.2.1]; omega)
          rw [HLn.out.2.1] at p1 p4 p6
          have rbA := KpRu.of q1 _ _ rb7
          exact ⟨hM7.cells.2.2.1, SG7.ru rb7 rfl, g4, c4, w8, p1, p2, p3, SG7.ru (p5 _ _ rbA) rfl, SG7.ru (p6 _ _ rbA) rfl, _, _, p6 _ _ rbA, p4⟩
        go_wp2_with fail
        go_cut [41] (fun _ wc => MidG7 Wb (k0 + 1 + 1) (k0 + 1 + 1 + 1 + 1) (k0 + 1 + 1) br (.slice (some ⟨ga, 0, none⟩) (p + 1) ca) u3 (Lt ++ [lt]) (plX X lf) (Lf ++ [X.idxOf lf]) Rg #[.int .i64 lt, .int .i64 (lf : Int), .int .i64 (rg : Int), .int .i64 (tq : Int)] wc)
        case first =>
          refine wp_region_held_drew (S := SG7 br 1 lf) (by kernel_rfl) (S0.out.kept (grown_drew (grown_refl _ _))) (fun hHeld => ?_)
          refine wpAnyH_take (i := 0) (v := ?_) rfl (by kernel_rfl) (by kernel_rfl) (by kernel_rfl) (fun _ _ _ h => h) (Or.inl ⟨by rfl, ?_⟩) (by assumption) ?_
          rotate_left
          · intro W hSw
            have t1 := hSw
            unfold SG7 at t1
            go_simp
            with_reducible rfl
          try simp only [Act.put, List.setIfInBounds_toArray, List.set_cons_zero, List.set_cons_succ]
          refine wpAnyH_take (i := 2) (v := ?_) rfl (by kernel_rfl) (by kernel_rfl) (by kernel_rfl) (fun _ _ _ h => h) (Or.inl ⟨by rfl, ?_⟩) (by assumption) ?_
          rotate_left
          · intro W hSw
            have t1 := hSw
            unfold SG7 at t1
            go_simp
            with_reducible rfl
          try simp only [Act.put, List.setIfInBounds_toArray, List.set_cons_zero, List.set_cons_succ]
          refine wpAnyH_take (i := 3) (v := ?_) rfl (by kernel_rfl) (by kernel_rfl) (by kernel_rfl) (fun _ _ _ h => h) (Or.inl ⟨by rfl, ?_⟩) (by assumption) ?_
          rotate_left
          · intro W hSw
            have t1 := hSw
            unfold SG7 at t1
            go_simp
            with_reducible rfl
          try simp only [Act.put, List.setIfInBounds_toArray, List.set_cons_zero, List.set_cons_succ]
          refine wpAnyH_ready (rs := [1, 4]) (by kernel_rfl) (by simp) ?_
          refine AllReadyH.cons (o := _) rfl (fun K' hK => ?_) ?_
          · go_simp
            refine hK.out _ _ (by assumption) (fun hHeld => ?_)
            clear hK K'
            try simp only [Act.put, List.setIfInBounds_toArray, List.set_cons_zero, List.set_cons_succ]
            refine wpAnyH_ready (rs := [4]) (by kernel_rfl) (by simp) ?_
            refine AllReadyH.cons (o := _) rfl (fun K' hK => ?_) ?_
            · go_simp
              refine (CP.out _ (grown_drew (grown_refl _ _))).mono ?_
              rintro E w7 ⟨u7, rfl, hM7, k7⟩
              obtain ⟨x7, S7, g4, c4, w8, hrun4, y4, z4, S8, S9, M9⟩ := HAp.out w7 u7 hM7 k7
              have x7' := fun ob => (grown_alloc w7 ob).cell x7 (by simp)
              go_wp2_with fail
              refine hK.out _ _ (S7.out) (fun hHeld => ?_)
              clear hK K'
              try simp only [Act.put, List.setIfInBounds_toArray, List.set_cons_zero, List.set_cons_succ]
              refine wpAnyH_ready (rs := [5]) (by kernel_rfl) (by simp) ?_
              refine AllReadyH.cons (o := _) rfl (fun K' hK => ?_) ?_
              · go_simp
                refine hK.out _ _ (hHeld.kept (grown_alloc _ _)) (fun hHeld => ?_)
                clear hK K'
                try simp only [Act.put, List.setIfInBounds_toArray, List.set_cons_zero, List.set_cons_succ]
                refine wpAnyH_ready (rs := [6]) (by kernel_rfl) (by simp) ?_
                refine AllReadyH.cons (o := _) rfl (fun K' hK => ?_) ?_
                · go_simp
                  refine hK.out _ _ (S8.out) (fun hHeld => ?_)
                  clear hK K'
                  try simp only [Act.put, List.setIfInBounds_toArray, List.set_cons_zero, List.set_cons_succ]
                  refine wpAnyH_take (i := 7) (v := ?_) rfl (by kernel_rfl) (by kernel_rfl) (by kernel_rfl) (fun _ _ _ h => h) (Or.inl ⟨by rfl, ?_⟩) (by assumption) ?_
                  rotate_left
                  · intro W hSw
                    have t1 := hSw
                    unfold SG7 at t1
                    go_simp
                    with_reducible rfl
                  try simp only [Act.put, List.setIfInBounds_toArray, List.set_cons_zero, List.set_cons_succ]
                  refine wpAnyH_ready (rs := [8]) (by kernel_rfl) (by simp) ?_
                  refine AllReadyH.cons (o := _) rfl (fun K' hK => ?_) ?_
                  · go_simp
                    refine hK.out _ _ (S9.out) (fun hHeld => ?_)
                    clear hK K'
                    try simp only [Act.put, List.setIfInBounds_toArray, List.set_cons_zero, List.set_cons_succ]
                    refine wpAnyH_done (by kernel_rfl) ?_ _
                    go_wp2_with fail
                    go_meet
                    case rel => exact M9.out
                  exact AllReadyH.nil
                exact AllReadyH.nil
              exact AllReadyH.nil
            exact AllReadyH.nil
          refine AllReadyH.cons (o := _) rfl (fun K' hK => ?_) ?_
          · go_simp
            refine (CP.out _ (grown_drew (grown_refl _ _))).mono ?_
            rintro E w7 ⟨u7, rfl, hM7, k7⟩
            obtain ⟨x7, S7, g4, c4, w8, hrun4, y4, z4, S8, S9, M9⟩ := HAp.out w7 u7 hM7 k7
            have x7' := fun ob => (grown_alloc w7 ob).cell x7 (by simp)
            go_wp2_with fail
            refine hK.out _ _ (S7.out) (fun hHeld => ?_)
            clear hK K'
            try simp only [Act.put, List.setIfInBounds_toArray, List.set_cons_zero, List.set_cons_succ]
            refine wpAnyH_ready (rs := [1, 5]) (by kernel_rfl) (by simp) ?_
            refine AllReadyH.cons (o := _) rfl (fun K' hK => ?_) ?_
            · go_simp
              refine hK.out _ _ (by assumption) (fun hHeld => ?_)
              clear hK K'
              try simp only [Act.put, List.setIfInBounds_toArray, List.set_cons_zero, List.set_cons_succ]
              refine wpAnyH_ready (rs := [5]) (by kernel_rfl) (by simp) ?_
              refine AllReadyH.cons (o := _) rfl (fun K' hK => ?_) ?_
              · go_simp
                refine hK.out _ _ (hHeld.kept (grown_alloc _ _)) (fun hHeld => ?_)
                clear hK K'
                try simp only [Act.put, List.setIfInBounds_toArray, List.set_cons_zero, List.set_cons_succ]
                refine wpAnyH_ready (rs := [6]) (by kernel_rfl) (by simp) ?_
                refine AllReadyH.cons (o := _) rfl (fun K' hK => ?_) ?_
                · go_simp
                  refine hK.out _ _ (S8.out) (fun hHeld => ?_)
                  clear hK K'
                  try simp only [Act.put, List.setIfInBounds_toArray, List.set_cons_zero, List.set_cons_succ]
                  refine wpAnyH_take (i := 7) (v := ?_) rfl (by kernel_rfl) (by kernel_rfl) (by kernel_rfl) (fun _ _ _ h => h) (Or.inl ⟨by rfl, ?_⟩) (by assumption) ?_
                  rotate_left
                  · intro W hSw
                    have t1 := hSw
                    unfold SG7 at t1
                    go_simp
                    with_reducible rfl
                  try simp only [Act.put, List.setIfInBounds_toArray, List.set_cons_zero, List.set_cons_succ]
                  refine wpAnyH_ready (rs := [8]) (by kernel_rfl) (by simp) ?_
                  refine AllReadyH.cons (o := _) rfl (fun K' hK => ?_) ?_
                  · go_simp
                    refine hK.out _ _ (S9.out) (fun hHeld => ?_)
                    clear hK K'
                    try simp only [Act.put, List.setIfInBounds_toArray, List.set_cons_zero, List.set_cons_succ]
                    refine wpAnyH_done (by kernel_rfl) ?_ _
                    go_wp2_with fail
                    go_meet
                    case rel => exact M9.out
                  exact AllReadyH.nil
                exact AllReadyH.nil
              exact AllReadyH.nil
            refine AllReadyH.cons (o := _) rfl (fun K' hK => ?_) ?_
            · go_simp
              refine hK.out _ _ (hHeld.kept (grown_alloc _ _)) (fun hHeld => ?_)
              clear hK K'
              try simp only [Act.put, List.setIfInBounds_toArray, List.set_cons_zero, List.set_cons_succ]
              refine wpAnyH_ready (rs := [1]) (by kernel_rfl) (by simp) ?_
              refine AllReadyH.cons (o := _) rfl (fun K' hK => ?_) ?_
              · go_simp
                refine hK.out _ _ (by assumption) (fun hHeld => ?_)
                clear hK K'
                try simp only [Act.put, List.setIfInBounds_toArray, List.set_cons_zero, List.set_cons_succ]
                refine wpAnyH_ready (rs := [6]) (by kernel_rfl) (by simp) ?_
                refine AllReadyH.cons (o := _) rfl (fun K' hK => ?_) ?_
                · go_simp
                  refine hK.out _ _ (S8.out) (fun hHeld => ?_)
                  clear hK K'
                  try simp only [Act.put, List.setIfInBounds_toArray, List.set_cons_zero, List.set_cons_succ]
                  refine wpAnyH_take (i := 7) (v := ?_) rfl (by kernel_rfl) (by kernel_rfl) (by kernel_rfl) (fun _ _ _ h => h) (Or.inl ⟨by rfl, ?_⟩) (by assumption) ?_
                  rotate_left
                  · intro W hSw
                    have t1 := hSw
                    unfold SG7 at t1
                    go_simp
                    with_reducible rfl
                  try simp only [Act.put, List.setIfInBounds_toArray, List.set_cons_zero, List.set_cons_succ]
                  refine wpAnyH_ready (rs := [8]) (by kernel_rfl) (by simp) ?_
                  refine AllReadyH.cons (o := _) rfl (fun K' hK => ?_) ?_
                  · go_simp
                    refine hK.out _ _ (S9.out) (fun hHeld => ?_)
                    clear hK K'
                    try simp only [Act.put, List.setIfInBounds_toArray, List.set_cons_zero, List.set_cons_succ]
                    refine wpAnyH_done (by kernel_rfl) ?_ _
                    go_wp2_with fail
                    go_meet
                    case rel => exact M9.out
                  exact AllReadyH.nil
                exact AllReadyH.nil
              exact AllReadyH.nil
            exact AllReadyH.nil
          exact AllReadyH.nil
        case rest =>
          clear HAp CP x2 S0 GM1 RB1 HV1
          obtain ⟨v1, v2, hRB, hM⟩ := hcut
          rename World => wd
          -- the right one
          have x2 := hM.cells.2.2.2
          have GM2 : Hid _ := hM
          have RB2 : Hid _ := hRB
          have S0 : Hid (SG7 br 2 rg wd) := SG7.ru hRB rfl
          have CP : Hid (∀ V, wd.grownBy V none → Calls Try.prog 26 #[.pointer (some ⟨k0 + 1 + 1 + 1 + 1, 0, none⟩), .int .i64 (rg : Int)] V (PlcPost Wb (k0 + 1 + 1) (k0 + 1 + 1 + 1 + 1) (k0 + 1 + 1) (.slice (some ⟨ga, 0, none⟩) (p + 1) ca) v2 u3 (Lt ++ [lt]) (plX X lf) (Lf ++ [X.idxOf lf]) Rg rg V)) := fun V hVV => placeOf_any _ _ _ _ _ _ _ _ _ _ _ _ _ _ (GM2.out.kept hVV) HPl.out.2
          have HAp : Hid (∀ w7 u7, GrB Wb (k0 + 1 + 1) (k0 + 1 + 1 + 1 + 1) (k0 + 1 + 1) (.slice (some ⟨ga, 0, none⟩) (p + 1) ca) u7 v2 u3 (Lt ++ [lt]) (plX (plX X lf) rg) (Lf ++ [X.idxOf lf]) Rg w7 → KpRu wd.drew w7 → w7.cell? ⟨k0 + 1 + 1 + 1 + 1, 3, none⟩ = some u3 ∧ Hid (SG7 br 2 rg w7) ∧ ∃ g4 c4 w8, (AppS #[23, 23] 23 #[u3, .slice (some ⟨w7.heap.size, 0, none⟩) 1 1]).run Try.prog (w7.alloc (.cells #[.int .i64 (((plX X lf).idxOf rg : Nat) : Int)] 3)) = .ok (.slice (some ⟨g4, 0, none⟩) (p + 1) c4) w8 ∧ w8.cell? ⟨k0 + 1 + 1 + 1 + 1, 3, none⟩ = some u3 ∧ w8.frozen? ⟨k0 + 1 + 1 + 1 + 1, 3, none⟩ = false ∧ Hid (SG7 br 2 rg w8) ∧ Hid (SG7 br 2 rg (w8.setCell ⟨k0 + 1 + 1 + 1 + 1, 3, none⟩ (.slice (some ⟨g4, 0, none⟩) (p + 1) c4))) ∧
              Hid (∃ n1 n2 n3, GrB Wb (k0 + 1 + 1) (k0 + 1 + 1 + 1 + 1) (k0 + 1 + 1) (.slice (some ⟨ga, 0, none⟩) (p + 1) ca) n1 n2 n3 (Lt ++ [lt]) (plX (plX X lf) rg) (Lf ++ [X.idxOf lf]) (Rg ++ [(plX X lf).idxOf rg]) (w8.setCell ⟨k0 + 1 + 1 + 1 + 1, 3, none⟩ (.slice (some ⟨g4, 0, none⟩) (p + 1) c4)))) := fun w7 u7 hM7 k7 => by
            have rb7 := k7 _ _ (KpRu.of (grown_drew (grown_refl _ _) : wd.grownBy wd.drew none) _ _ RB2.out)
            obtain ⟨q1, q2, q3⟩ := one_cell w7 (.int .i64 (((plX X lf).idxOf rg : Nat) : Int)) 3
            obtain ⟨g4, c4, w8, p1, p2, p3, p4, p5, p6, _⟩ := hM7.pushR q1 hM7.lz q2 q3 (by rw [HLn.out.2.2]; omega)
            rw [HLn.out.2.2] at p1 p4 p6
            have rbA := KpRu.of q1 _ _ rb7
            exact ⟨hM7.cells.2.2.2, SG7.ru rb7 rfl, g4, c4, w8, p1, p2, p3, SG7.ru (p5 _ _ rbA) rfl, SG7.ru (p6 _ _ rbA) rfl, _, _, _, p4⟩
          clear hM hRB GM2 RB2
          go_wp2_with fail
          refine wp_region_held_drew (S := SG7 br 2 rg) (by kernel_rfl) (S0.out.kept (grown_drew (grown_refl _ _))) (fun hHeld => ?_)
          refine wpAnyH_take (i := 0) (v := ?_) rfl (by kernel_rfl) (by kernel_rfl) (by kernel_rfl) (fun _ _ _ h => h) (Or.inl ⟨by rfl, ?_⟩) (by assumption) ?_
          rotate_left
          · intro W hSw
            have t1 := hSw
            unfold SG7 at t1
            go_simp
            with_reducible rfl
          try simp only [Act.put, List.setIfInBounds_toArray, List.set_cons_zero, List.set_cons_succ]
          refine wpAnyH_take (i := 2) (v := ?_) rfl (by kernel_rfl) (by kernel_rfl) (by kernel_rfl) (fun _ _ _ h => h) (Or.inl ⟨by rfl, ?_⟩) (by assumption) ?_
          rotate_left
          · intro W hSw
            have t1 := hSw
            unfold SG7 at t1
            go_simp
            with_reducible rfl
          try simp only [Act.put, List.setIfInBounds_toArray, List.set_cons_zero, List.set_cons_succ]
          refine wpAnyH_take (i := 3) (v := ?_) rfl (by kernel_rfl) (by kernel_rfl) (by kernel_rfl) (fun _ _ _ h => h) (Or.inl ⟨by rfl, ?_⟩) (by assumption) ?_
          rotate_left
          · intro W hSw
            have t1 := hSw
            unfold SG7 at t1
            go_simp
            with_reducible rfl
          try simp only [Act.put, List.setIfInBounds_toArray, List.set_cons_zero, List.set_cons_succ]
          refine wpAnyH_ready (rs := [1, 4]) (by kernel_rfl) (by simp) ?_
          refine AllReadyH.cons (o := _) rfl (fun K' hK => ?_) ?_
          · go_simp
            refine hK.out _ _ (by assumption) (fun hHeld => ?_)
            clear hK K'
            try simp only [Act.put, List.setIfInBounds_toArray, List.set_cons_zero, List.set_cons_succ]
            refine wpAnyH_ready (rs := [4]) (by kernel_rfl) (by simp) ?_
            refine AllReadyH.cons (o := _) rfl (fun K' hK => ?_) ?_
            · go_simp
              refine (CP.out _ (grown_drew (grown_refl _ _))).mono ?_
              rintro E w7 ⟨u7, rfl, hM7, k7⟩
              obtain ⟨x7, S7, g4, c4, w8, hrun4, y4, z4, S8, S9, M9⟩ := HAp.out w7 u7 hM7 k7
              have x7' := fun ob => (grown_alloc w7 ob).cell x7 (by simp)
              go_wp2_with fail
              refine hK.out _ _ (S7.out) (fun hHeld => ?_)
              clear hK K'
              try simp only [Act.put, List.setIfInBounds_toArray, List.set_cons_zero, List.set_cons_succ]
              refine wpAnyH_ready (rs := [5]) (by kernel_rfl) (by simp) ?_
              refine AllReadyH.cons (o := _) rfl (fun K' hK => ?_) ?_
              · go_simp
                refine hK.out _ _ (hHeld.kept (grown_alloc _ _)) (fun hHeld => ?_)
                clear hK K'
                try simp only [Act.put, List.setIfInBounds_toArray, List.set_cons_zero, List.set_cons_succ]
                refine wpAnyH_ready (rs := [6]) (by kernel_rfl) (by simp) ?_
                refine AllReadyH.cons (o := _) rfl (fun K' hK => ?_) ?_
                · go_simp
                  refine hK.out _ _ (S8.out) (fun hHeld => ?_)
                  clear hK K'
                  try simp only [Act.put, List.setIfInBounds_toArray, List.set_cons_zero, List.set_cons_succ]
                  refine wpAnyH_take (i := 7) (v := ?_) rfl (by kernel_rfl) (by kernel_rfl) (by kernel_rfl) (fun _ _ _ h => h) (Or.inl ⟨by rfl, ?_⟩) (by assumption) ?_
                  rotate_left
                  · intro W hSw
                    have t1 := hSw
                    unfold SG7 at t1
                    go_simp
                    with_reducible rfl
                  try simp only [Act.put, List.setIfInBounds_toArray, List.set_cons_zero, List.set_cons_succ]
                  refine wpAnyH_ready (rs := [8]) (by kernel_rfl) (by simp) ?_
                  refine AllReadyH.cons (o := _) rfl (fun K' hK => ?_) ?_
                  · go_simp
                    refine hK.out _ _ (S9.out) (fun hHeld => ?_)
                    clear hK K'
                    try simp only [Act.put, List.setIfInBounds_toArray, List.set_cons_zero, List.set_cons_succ]
                    refine wpAnyH_done (by kernel_rfl) ?_ _
                    go_wp2_with fail
                    go_roundw
                    case rel =>
                      obtain ⟨n1, n2, n3, h9⟩ := M9.out
                      exact ⟨p + 1, _, _, _, _, _, _, _, _, by go_num, GI2.out, h9⟩
                    case measure => simp [intOf]; omega
                  exact AllReadyH.nil
                exact AllReadyH.nil
              exact AllReadyH.nil
            exact AllReadyH.nil
          refine AllReadyH.cons (o := _) rfl (fun K' hK => ?_) ?_
          · go_simp
            refine (CP.out _ (grown_drew (grown_refl _ _))).mono ?_
            rintro E w7 ⟨u7, rfl, hM7, k7⟩
            obtain ⟨x7, S7, g4, c4, w8, hrun4, y4, z4, S8, S9, M9⟩ := HAp.out w7 u7 hM7 k7
            have x7' := fun ob => (grown_alloc w7 ob).cell x7 (by simp)
            go_wp2_with fail
            refine hK.out _ _ (S7.out) (fun hHeld => ?_)
            clear hK K'
            try simp only [Act.put, List.setIfInBounds_toArray, List.set_cons_zero, List.set_cons_succ]
            refine wpAnyH_ready (rs := [1, 5]) (by kernel_rfl) (by simp) ?_
            refine AllReadyH.cons (o := _) rfl (fun K' hK => ?_) ?_
            · go_simp
              refine hK.out _ _ (by assumption) (fun hHeld => ?_)
              clear hK K'
              try simp only [Act.put, List.setIfInBounds_toArray, List.set_cons_zero, List.set_cons_succ]
              refine wpAnyH_ready (rs := [5]) (by kernel_rfl) (by simp) ?_
              refine AllReadyH.cons (o := _) rfl (fun K' hK => ?_) ?_
              · go_simp
                refine hK.out _ _ (hHeld.kept (grown_alloc _ _)) (fun hHeld => ?_)
                clear hK K'
                try simp only [Act.put, List.setIfInBounds_toArray, List.set_cons_zero, List.set_cons_succ]
                refine wpAnyH_ready (rs := [6]) (by kernel_rfl) (by simp) ?_
                refine AllReadyH.cons (o := _) rfl (fun K' hK => ?_) ?_
                · go_simp
                  refine hK.out _ _ (S8.out) (fun hHeld => ?_)
                  clear hK K'
                  try simp only [Act.put, List.setIfInBounds_toArray, List.set_cons_zero, List.set_cons_succ]
                  refine wpAnyH_take (i := 7) (v := ?_) rfl (by kernel_rfl) (by kernel_rfl) (by kernel_rfl) (fun _ _ _ h => h) (Or.inl ⟨by rfl, ?_⟩) (by assumption) ?_
                  rotate_left
                  · intro W hSw
                    have t1 := hSw
                    unfold SG7 at t1
                    go_simp
                    with_reducible rfl
                  try simp only [Act.put, List.setIfInBounds_toArray, List.set_cons_zero, List.set_cons_succ]
                  refine wpAnyH_ready (rs := [8]) (by kernel_rfl) (by simp) ?_
                  refine AllReadyH.cons (o := _) rfl (fun K' hK => ?_) ?_
                  · go_simp
                    refine hK.out _ _ (S9.out) (fun hHeld => ?_)
                    clear hK K'
                    try simp only [Act.put, List.setIfInBounds_toArray, List.set_cons_zero, List.set_cons_succ]
                    refine wpAnyH_done (by kernel_rfl) ?_ _
                    go_wp2_with fail
                    go_roundw
                    case rel =>
                      obtain ⟨n1, n2, n3, h9⟩ := M9.out
                      exact ⟨p + 1, _, _, _, _, _, _, _, _, by go_num, GI2.out, h9⟩
                    case measure => simp [intOf]; omega
                  exact AllReadyH.nil
                exact AllReadyH.nil
              exact AllReadyH.nil
            refine AllReadyH.cons (o := _) rfl (fun K' hK => ?_) ?_
            · go_simp
              refine hK.out _ _ (hHeld.kept (grown_alloc _ _)) (fun hHeld => ?_)
              clear hK K'
              try simp only [Act.put, List.setIfInBounds_toArray, List.set_cons_zero, List.set_cons_succ]
              refine wpAnyH_ready (rs := [1]) (by kernel_rfl) (by simp) ?_
              refine AllReadyH.cons (o := _) rfl (fun K' hK => ?_) ?_
              · go_simp
                refine hK.out _ _ (by assumption) (fun hHeld => ?_)
                clear hK K'
                try simp only [Act.put, List.setIfInBounds_toArray, List.set_cons_zero, List.set_cons_succ]
                refine wpAnyH_ready (rs := [6]) (by kernel_rfl) (by simp) ?_
                refine AllReadyH.cons (o := _) rfl (fun K' hK => ?_) ?_
                · go_simp
                  refine hK.out _ _ (S8.out) (fun hHeld => ?_)
                  clear hK K'
                  try simp only [Act.put, List.setIfInBounds_toArray, List.set_cons_zero, List.set_cons_succ]
                  refine wpAnyH_take (i := 7) (v := ?_) rfl (by kernel_rfl) (by kernel_rfl) (by kernel_rfl) (fun _ _ _ h => h) (Or.inl ⟨by rfl, ?_⟩) (by assumption) ?_
                  rotate_left
                  · intro W hSw
                    have t1 := hSw
                    unfold SG7 at t1
                    go_simp
                    with_reducible rfl
                  try simp only [Act.put, List.setIfInBounds_toArray, List.set_cons_zero, List.set_cons_succ]
                  refine wpAnyH_ready (rs := [8]) (by kernel_rfl) (by simp) ?_
                  refine AllReadyH.cons (o := _) rfl (fun K' hK => ?_) ?_
                  · go_simp
                    refine hK.out _ _ (S9.out) (fun hHeld => ?_)
                    clear hK K'
                    try simp only [Act.put, List.setIfInBounds_toArray, List.set_cons_zero, List.set_cons_succ]
                    refine wpAnyH_done (by kernel_rfl) ?_ _
                    go_wp2_with fail
                    go_roundw
                    case rel =>
                      obtain ⟨n1, n2, n3, h9⟩ := M9.out
                      exact ⟨p + 1, _, _, _, _, _, _, _, _, by go_num, GI2.out, h9⟩
                    case measure => simp [intOf]; omega
                  exact AllReadyH.nil
                exact AllReadyH.nil
              exact AllReadyH.nil
            exact AllReadyH.nil
          exact AllReadyH.nil
    · have hpi : ¬ (p : Int) < (X.length : Int) := by omega
      have hpe : p = X.length := by have := hgi.kl; omega
      obtain ⟨_, aL, cL, eL⟩ := hgm.own.1 (3, u0, vals Lt) (by simp)
      obtain ⟨_, aF, cF, eF⟩ := hgm.own.1 (3, u2, nvals Lf) (by simp)
      obtain ⟨_, aR, cR, eR⟩ := hgm.own.1 (3, u3, nvals Rg) (by simp)
      have eL' : u0 = .slice aL X.length cL := by simpa [vals_len, hl1, hpe] using eL
      have eF' : u2 = .slice aF X.length cF := by simpa [nvals_len, hl2, hpe] using eF
      have eR' : u3 = .slice aR X.length cR := by simpa [nvals_len, hl3, hpe] using eR
      clear eL eF eR
      subst eL' eF' eR'
      have ho := hgm.own.perm (List.perm_middle (l₁ := [_, _, _, _, _]) (l₂ := []))
      have o1 := (((ho.set (i := 0) (by omega) (.slice aL X.length cL)).set (i := 1) (by omega) (.slice a1 X.length c1)).set (i := 2) (by omega) (.slice aF X.length cF)).set (i := 3) (by omega) (.slice aR X.length cR)
      obtain ⟨W9, hW9⟩ : ∃ W9, W9 = (((wr.setCell ⟨k0 + 1 + 1, 0, none⟩ (.slice aL X.length cL)).setCell ⟨k0 + 1 + 1, 1, none⟩ (.slice a1 X.length c1)).setCell ⟨k0 + 1 + 1, 2, none⟩ (.slice aF X.length cF)).setCell ⟨k0 + 1 + 1, 3, none⟩ (.slice aR X.length cR) := ⟨_, rfl⟩
      rw [← hW9] at o1
      have zc : ∀ j, j < 4 → wr.cell? ⟨k0 + 1 + 1, j, none⟩ = some (.slice none 0 0) := fun j hj => by
        match j, hj with
        | 0, _ => exact ho.cell (i := 0) rfl
        | 1, _ => exact ho.cell (i := 1) rfl
        | 2, _ => exact ho.cell (i := 2) rfl
        | 3, _ => exact ho.cell (i := 3) rfl
      have z0 := zc 0 (by omega)
      have z1 := zc 1 (by omega)
      have z2 := zc 2 (by omega)
      have z3 := zc 3 (by omega)
      have zf := fun j => ho.fz j
      have q0 : W9.cell? ⟨k0 + 1 + 1, 0, none⟩ = some (.slice aL X.length cL) := o1.cell (i := 0) rfl
      have q1 : W9.cell? ⟨k0 + 1 + 1, 1, none⟩ = some (.slice a1 X.length c1) := o1.cell (i := 1) rfl
      have q2 : W9.cell? ⟨k0 + 1 + 1, 2, none⟩ = some (.slice aF X.length cF) := o1.cell (i := 2) rfl
      have q3 : W9.cell? ⟨k0 + 1 + 1, 3, none⟩ = some (.slice aR X.length cR) := o1.cell (i := 3) rfl
      have GW9 : w.grownBy W9 none := by
        rw [hW9]
        have hh : w.heap.size ≤ k0 + 1 + 1 := by omega
        exact grown_new (grown_new (grown_new (grown_new (grown_trans GW.out hgm.gr) (grown_set _ _ _) hh) (grown_set _ _ _) hh) (grown_set _ _ _) hh) (grown_set _ _ _) hh
      have Fin : Hid (Po (.returned (.agg #[.slice aL X.length cL, .slice a1 X.length c1, .slice aF X.length cF, .slice aR X.length cR])) W9) := by
        show Po _ _
        rw [HPo.out]
        rw [nvals_map X, nvals_map Lf, nvals_map Rg] at o1
        refine ⟨X, Lt, Lf, Rg, aL, a1, aF, aR, cL, c1, cF, cR, rfl, by rw [← hpe]; exact hgi, ?_, ?_, ?_, ?_, GW9⟩
        · exact ints_own (r := []) (n := X.length) (c := cL) (owns_sub o1 (List.singleton_sublist.2 (List.mem_of_getElem? (i := 2) rfl)))
        · exact ints_own (r := []) (n := X.length) (c := c1) (owns_sub o1 (List.singleton_sublist.2 (List.mem_of_getElem? (i := 3) rfl)))
        · exact ints_own (r := []) (n := X.length) (c := cF) (owns_sub o1 (List.singleton_sublist.2 (List.mem_of_getElem? (i := 4) rfl)))
        · exact ints_own (r := []) (n := X.length) (c := cR) (owns_sub o1 (List.singleton_sublist.2 (List.mem_of_getElem? (i := 5) rfl)))
      have HW9 : Hid (W9 = _) := hW9
      have HpX : Hid (p = X.length) := hpe
      clear hgi hgm GI GM hX hl1 hl2 hl3 ho o1 zc hW9 hpe GW9
      go_wp2_with fail
      rw [← HW9.out]
      exact bodyPost_ret (v := .agg #[.slice aL X.length cL, .slice a1 X.length c1, .slice aF X.length cF, .slice aR X.length cR]) (by simp [results, Try.results13, go_sem, q0, q1, q2, q3]) rfl Fin.out

end Go.Proofs.Ytnlkdihfoekjmaa
