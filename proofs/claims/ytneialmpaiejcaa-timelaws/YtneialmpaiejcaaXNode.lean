/- The program's along at not, next, both, either, until: given that it does what it should for what stands within. -/
import Derived.Test.YtneialmpaiejcaaXLeaf
import Derived.Deep.RegionHeld3
namespace Go.Proofs.Ytneialmpaiejcaa
open Go.RowKit Go.Shelf
set_option linter.unusedVariables false
set_option linter.unusedSimpArgs false

theorem tree_some {ok : Nat → Prop} {w : World} {v : Value} {x : Tr} (h : TreeAt ok w v x) (hx : WellTr x) : ∃ g, v = .pointer (some ⟨g, 0, none⟩) := by
  cases h with
  | nil => exact hx.elim
  | node g k l r lv rv hok hb hl hr => exact ⟨g, rfl⟩
set_option maxHeartbeats 3200000 in
set_option maxRecDepth 100000 in
theorem along_not (n t : Nat) (lt : Nat → Nat) (a : Option Addr) (c : Nat) (hn : n ≤ 1000) (ht : t < n) (hlt : ∀ k, k < n → lt k < 4) (xl : Tr) (hwl : WellTr xl) (ihl : DoesA n t lt a c xl) : DoesA n t lt a c (.node 4 xl .nil) := by
  intro ok W v hT _ hW
  cases hT with
  | node g _ _ _ lv rv hok hb hTl hTr =>
    obtain ⟨c0, c1, c2⟩ := node_cellsA hb
    have HC : Hid (∀ W', W.grownBy W' none → W'.cell? ⟨g, 0, none⟩ = some (.int .i64 4) ∧ W'.cell? ⟨g, 1, none⟩ = some lv ∧ W'.cell? ⟨g, 2, none⟩ = some rv) := fun W' h => ⟨h.cell c0 (by simp), h.cell c1 (by simp), h.cell c2 (by simp)⟩
    obtain ⟨W1, hW1, g1, bx⟩ := way_box W a n c t
    have HW1 : Hid (W1 = W.alloc (.cells #[.slice a n c, .int .i64 (t : Int)] 39)) := hW1
    have G1 : Hid (W.grownBy W1 none) := g1
    have BX : Hid (∀ W', W1.grownBy W' none → W'.cell? ⟨W.heap.size, 0, none⟩ = some (.slice a n c) ∧ W'.cell? ⟨W.heap.size, 1, none⟩ = some (.int .i64 (t : Int))) := bx
    have HWY : Hid (WayW W a n lt) := hW
    have HS : Hid ((semT n t lt (.node 4 xl .nil)) = (fun i => !(semT n t lt xl) i)) := by show _ = _; funext i; simp [semT]
    obtain ⟨pL, rfl⟩ := tree_some hTl hwl
    cases hTr
    have HL : Hid (∀ W', W1.grownBy W' none → Calls Try.prog 8 #[.pointer (some ⟨pL, 0, none⟩), .agg #[.slice a n c, .int .i64 (t : Int)]] W' (AlongT n (semT n t lt xl) W')) := fun W' h => ihl ok W' _ (hTl.idleA (grown_trans g1 h)) hwl (hW.kept (grown_trans g1 h))
    have SKL : Hid (∀ W', W1.grownBy W' none → W'.cell? ⟨g, 1, none⟩ = some (.pointer (some ⟨pL, 0, none⟩)) ∧ W'.cell? ⟨W.heap.size, 0, none⟩ = some (.slice a n c) ∧ W'.cell? ⟨W.heap.size, 1, none⟩ = some (.int .i64 (t : Int))) := fun W' h => ⟨(HC.out W' (grown_trans g1 h)).2.1, bx W' h⟩
    obtain ⟨z0, z1, z2⟩ := HC.out W1 G1.out
    obtain ⟨y0, y1⟩ := BX.out W1 (grown_refl _ _)
    rw [HW1.out] at z0 z1 z2 y0 y1
    rw [HS.out]
    generalize semT n t lt xl = SL at *
    clear hb c0 c1 c2 hW1 g1 bx hW HS hTl ihl
    go_enter Try.func8, Try.ntmps8
    go_wp2_with fail
    rw [← HW1.out]
    clear z0 z1 z2 y0 y1
    go_region_held3 (fun W' => W'.cell? ⟨g, 1, none⟩ = some (.pointer (some ⟨pL, 0, none⟩)) ∧ W'.cell? ⟨W.heap.size, 0, none⟩ = some (.slice a n c) ∧ W'.cell? ⟨W.heap.size, 1, none⟩ = some (.int .i64 (t : Int))) (first | with_reducible exact SKL.out _ (grown_trans (grown_refl _ _) (grown_drew (grown_refl _ _))) | with_reducible exact SKL.out _ GL.out)
      (first
      | (go_at_call 8; refine (HL.out _ (grown_trans (grown_refl _ _) (grown_drew (grown_refl _ _)))).mono ?_; rintro e wL ⟨bL, rfl, hrL, hgL⟩; have RL : Hid (BRow wL bL n SL) := hrL; have GL : Hid (W1.grownBy wL none) := grown_trans (grown_trans (grown_refl _ _) (grown_drew (grown_refl _ _))) hgL; clear hrL hgL))
    obtain ⟨z0, z1, z2⟩ := HC.out wL (grown_trans G1.out GL.out)
    have hmkE : ∃ W5, (Instr.makeSlice 36 (.int .i64 (n : Int)) (.int .i64 (n : Int))).run Try.prog wL = .ok (.slice (some ⟨wL.heap.size, 0, none⟩) n n) W5 ∧ BRow W5 wL.heap.size n (fun _ => false) ∧ wL.grownBy W5 none ∧ W5.heap.size = wL.heap.size + 1 := bools_make wL n hn
    obtain ⟨W5, hmk, hrow, g5, s5⟩ := hmkE
    obtain ⟨gw, ow, rfl, hcw⟩ := HWY.out
    obtain ⟨go, hgo⟩ : ∃ go, wL.heap.size = go := ⟨_, rfl⟩
    rw [hgo] at hmk hrow s5
    have S5 : Hid (∀ wr, W5.grownBy wr (some go) → W1.grownBy wr none) := fun wr h => grown_new (grown_trans GL.out g5) h (by have := GL.out.size; omega)
    have CW : Hid (∀ k, k < n → W.cell? ⟨gw, ow + k, none⟩ = some (.int .i64 ((lt k : Nat) : Int))) := hcw
    have R0 : Hid (BRow W5 go n (upTo 0 (fun i => !SL i))) := upTo_zero hrow
    have KA : Hid (∀ wr, W5.grownBy wr (some go) → BRow wr bL n SL) := fun wr h => by
      have h1 := RL.out.kept g5
      exact h1.block (h.block bL h1.lt (by have := RL.out.lt; simp; omega))
    have b0 := (BX.out W5 (grown_trans GL.out g5)).1
    have bM := (BX.out wL GL.out).1
    have HGO : Hid (W1.heap.size ≤ go) := by show W1.heap.size ≤ go; rw [← hgo]; exact GL.out.size
    clear hrow g5 s5 hcw hgo
    go_wp2_with fail
    clear hmk b0 bM z0 z1 z2
    go_loopw [48] (fun v wr => ∃ j : Nat, v = .int .i64 (j : Int) ∧ j ≤ n ∧ BRow wr go n (upTo j (fun i => !SL i)) ∧ W5.grownBy wr (some go)) (fun v _ => n - (intOf v).toNat)
    case atStart => exact ⟨0, rfl, by omega, R0.out, grown_refl _ _⟩
    case round =>
      rename World => wr
      obtain ⟨j, rfl, hj, hr, hg⟩ := hrel
      have RR : Hid (BRow wr go n (upTo j (fun i => !SL i))) := hr
      have GG : Hid (W5.grownBy wr (some go)) := hg
      have GW : Hid (W.grownBy wr none) := grown_trans G1.out (S5.out wr hg)
      obtain ⟨d0, d1, d2⟩ := HC.out wr GW.out
      obtain ⟨e0, e1⟩ := BX.out wr (S5.out wr hg)
      clear hr hg
      by_cases hjn : j < n
      · have q1 : (j : Int) < (n : Int) := by omega
        have q2 : (0 : Int) ≤ (j : Int) := by omega
        have w0 := GW.out.cell (CW.out j hjn) (by simp)
        have oc := RR.out.cell hjn
        have of := RR.out.frozen j
        have ka := (KA.out wr GG.out).cell hjn
        have R2 : Hid (BRow (wr.setCell ⟨go, j, none⟩ (.bool (!SL j))) go n (upTo (j + 1) (fun i => !SL i))) := upTo_step RR.out hjn rfl
        have G2 : Hid (W5.grownBy (wr.setCell ⟨go, j, none⟩ (.bool (!SL j))) (some go)) := grown_trans GG.out (grown_set _ _ _)
        go_wp2_with fail
        go_roundw
        case rel => exact ⟨j + 1, by go_num, by omega, R2.out, G2.out⟩
        case measure => simp [intOf]; omega
      · have q1 : ¬ (j : Int) < (n : Int) := by omega
        obtain rfl : j = n := by omega
        go_wp2_with fail
        go_ret
        exact ⟨go, rfl, upTo_all RR.out, GW.out⟩

set_option maxHeartbeats 3200000 in
set_option maxRecDepth 100000 in
theorem along_next (n t : Nat) (lt : Nat → Nat) (a : Option Addr) (c : Nat) (hn : n ≤ 1000) (ht : t < n) (hlt : ∀ k, k < n → lt k < 4) (xl : Tr) (hwl : WellTr xl) (ihl : DoesA n t lt a c xl) : DoesA n t lt a c (.node 7 xl .nil) := by
  intro ok W v hT _ hW
  cases hT with
  | node g _ _ _ lv rv hok hb hTl hTr =>
    obtain ⟨c0, c1, c2⟩ := node_cellsA hb
    have HC : Hid (∀ W', W.grownBy W' none → W'.cell? ⟨g, 0, none⟩ = some (.int .i64 7) ∧ W'.cell? ⟨g, 1, none⟩ = some lv ∧ W'.cell? ⟨g, 2, none⟩ = some rv) := fun W' h => ⟨h.cell c0 (by simp), h.cell c1 (by simp), h.cell c2 (by simp)⟩
    obtain ⟨W1, hW1, g1, bx⟩ := way_box W a n c t
    have HW1 : Hid (W1 = W.alloc (.cells #[.slice a n c, .int .i64 (t : Int)] 39)) := hW1
    have G1 : Hid (W.grownBy W1 none) := g1
    have BX : Hid (∀ W', W1.grownBy W' none → W'.cell? ⟨W.heap.size, 0, none⟩ = some (.slice a n c) ∧ W'.cell? ⟨W.heap.size, 1, none⟩ = some (.int .i64 (t : Int))) := bx
    have HWY : Hid (WayW W a n lt) := hW
    have HS : Hid ((semT n t lt (.node 7 xl .nil)) = (fun i => (semT n t lt xl) (aft n t i))) := by show _ = _; funext i; simp [semT]
    obtain ⟨pL, rfl⟩ := tree_some hTl hwl
    cases hTr
    have HL : Hid (∀ W', W1.grownBy W' none → Calls Try.prog 8 #[.pointer (some ⟨pL, 0, none⟩), .agg #[.slice a n c, .int .i64 (t : Int)]] W' (AlongT n (semT n t lt xl) W')) := fun W' h => ihl ok W' _ (hTl.idleA (grown_trans g1 h)) hwl (hW.kept (grown_trans g1 h))
    have SKL : Hid (∀ W', W1.grownBy W' none → W'.cell? ⟨g, 1, none⟩ = some (.pointer (some ⟨pL, 0, none⟩)) ∧ W'.cell? ⟨W.heap.size, 0, none⟩ = some (.slice a n c) ∧ W'.cell? ⟨W.heap.size, 1, none⟩ = some (.int .i64 (t : Int))) := fun W' h => ⟨(HC.out W' (grown_trans g1 h)).2.1, bx W' h⟩
    obtain ⟨z0, z1, z2⟩ := HC.out W1 G1.out
    obtain ⟨y0, y1⟩ := BX.out W1 (grown_refl _ _)
    rw [HW1.out] at z0 z1 z2 y0 y1
    rw [HS.out]
    generalize semT n t lt xl = SL at *
    clear hb c0 c1 c2 hW1 g1 bx hW HS hTl ihl
    go_enter Try.func8, Try.ntmps8
    go_wp2_with fail
    rw [← HW1.out]
    clear z0 z1 z2 y0 y1
    go_region_held3 (fun W' => W'.cell? ⟨g, 1, none⟩ = some (.pointer (some ⟨pL, 0, none⟩)) ∧ W'.cell? ⟨W.heap.size, 0, none⟩ = some (.slice a n c) ∧ W'.cell? ⟨W.heap.size, 1, none⟩ = some (.int .i64 (t : Int))) (first | with_reducible exact SKL.out _ (grown_trans (grown_refl _ _) (grown_drew (grown_refl _ _))) | with_reducible exact SKL.out _ GL.out)
      (first
      | (go_at_call 8; refine (HL.out _ (grown_trans (grown_refl _ _) (grown_drew (grown_refl _ _)))).mono ?_; rintro e wL ⟨bL, rfl, hrL, hgL⟩; have RL : Hid (BRow wL bL n SL) := hrL; have GL : Hid (W1.grownBy wL none) := grown_trans (grown_trans (grown_refl _ _) (grown_drew (grown_refl _ _))) hgL; clear hrL hgL))
    obtain ⟨z0, z1, z2⟩ := HC.out wL (grown_trans G1.out GL.out)
    have hmkE : ∃ W5, (Instr.makeSlice 36 (.int .i64 (n : Int)) (.int .i64 (n : Int))).run Try.prog wL = .ok (.slice (some ⟨wL.heap.size, 0, none⟩) n n) W5 ∧ BRow W5 wL.heap.size n (fun _ => false) ∧ wL.grownBy W5 none ∧ W5.heap.size = wL.heap.size + 1 := bools_make wL n hn
    obtain ⟨W5, hmk, hrow, g5, s5⟩ := hmkE
    obtain ⟨gw, ow, rfl, hcw⟩ := HWY.out
    obtain ⟨go, hgo⟩ : ∃ go, wL.heap.size = go := ⟨_, rfl⟩
    rw [hgo] at hmk hrow s5
    have S5 : Hid (∀ wr, W5.grownBy wr (some go) → W1.grownBy wr none) := fun wr h => grown_new (grown_trans GL.out g5) h (by have := GL.out.size; omega)
    have CW : Hid (∀ k, k < n → W.cell? ⟨gw, ow + k, none⟩ = some (.int .i64 ((lt k : Nat) : Int))) := hcw
    have R0 : Hid (BRow W5 go n (upTo 0 (fun i => SL (aft n t i)))) := upTo_zero hrow
    have KA : Hid (∀ wr, W5.grownBy wr (some go) → BRow wr bL n SL) := fun wr h => by
      have h1 := RL.out.kept g5
      exact h1.block (h.block bL h1.lt (by have := RL.out.lt; simp; omega))
    have b0 := (BX.out W5 (grown_trans GL.out g5)).1
    have bM := (BX.out wL GL.out).1
    have HGO : Hid (W1.heap.size ≤ go) := by show W1.heap.size ≤ go; rw [← hgo]; exact GL.out.size
    clear hrow g5 s5 hcw hgo
    go_wp2_with fail
    clear hmk b0 bM z0 z1 z2
    go_loopw [48] (fun v wr => ∃ j : Nat, v = .int .i64 (j : Int) ∧ j ≤ n ∧ BRow wr go n (upTo j (fun i => SL (aft n t i))) ∧ W5.grownBy wr (some go)) (fun v _ => n - (intOf v).toNat)
    case atStart => exact ⟨0, rfl, by omega, R0.out, grown_refl _ _⟩
    case round =>
      rename World => wr
      obtain ⟨j, rfl, hj, hr, hg⟩ := hrel
      have RR : Hid (BRow wr go n (upTo j (fun i => SL (aft n t i)))) := hr
      have GG : Hid (W5.grownBy wr (some go)) := hg
      have GW : Hid (W.grownBy wr none) := grown_trans G1.out (S5.out wr hg)
      obtain ⟨d0, d1, d2⟩ := HC.out wr GW.out
      obtain ⟨e0, e1⟩ := BX.out wr (S5.out wr hg)
      clear hr hg
      by_cases hjn : j < n
      · have q1 : (j : Int) < (n : Int) := by omega
        have q2 : (0 : Int) ≤ (j : Int) := by omega
        have w0 := GW.out.cell (CW.out j hjn) (by simp)
        have oc := RR.out.cell hjn
        have of := RR.out.frozen j
        have KC : Hid (Calls Try.prog 17 #[.agg #[.slice (some ⟨gw, ow, none⟩) n c, .int .i64 (t : Int)], .int .i64 (j : Int)] wr (Says (.int .i64 ((aft n t j : Nat) : Int)) wr)) := after_any n t j c _ wr hn hjn ht
        have ha := aft_lt (i := j) ht
        have qa : ((aft n t j : Nat) : Int) < (n : Int) := by omega
        have RS : Hid (∀ w7, wr.grownBy w7 none → BRow (w7.setCell ⟨go, j, none⟩ (.bool (SL (aft n t j)))) go n (upTo (j + 1) (fun i => SL (aft n t i))) ∧ W5.grownBy (w7.setCell ⟨go, j, none⟩ (.bool (SL (aft n t j)))) (some go) ∧ w7.cell? ⟨go, j, none⟩ = some (.bool (upTo j (fun i => SL (aft n t i)) j)) ∧ w7.frozen? ⟨go, j, none⟩ = false ∧ w7.cell? ⟨bL, aft n t j, none⟩ = some (.bool (SL (aft n t j)))) := fun w7 h7 => ⟨upTo_step (RR.out.kept h7) hjn rfl, grown_trans (grown_trans GG.out (grown_some h7)) (grown_set _ _ _), (RR.out.kept h7).cell hjn, (RR.out.kept h7).frozen j, ((KA.out wr GG.out).kept h7).cell ha⟩
        generalize aft n t j = aj at *
        go_wp2_with fail
        refine KC.out.mono ?_
        rintro e w7 ⟨rfl, hg7⟩
        obtain ⟨r7, g7, x7, f7, l7⟩ := RS.out w7 hg7
        have R7 : Hid _ := r7
        have G7 : Hid _ := g7
        clear hg7 r7 g7 RS oc of
        go_wp2_with fail
        go_roundw
        case rel => exact ⟨j + 1, by go_num, by omega, R7.out, G7.out⟩
        case measure => simp [intOf]; omega
      · have q1 : ¬ (j : Int) < (n : Int) := by omega
        obtain rfl : j = n := by omega
        go_wp2_with fail
        go_ret
        exact ⟨go, rfl, upTo_all RR.out, GW.out⟩

set_option maxHeartbeats 3200000 in
set_option maxRecDepth 100000 in
theorem along_both (n t : Nat) (lt : Nat → Nat) (a : Option Addr) (c : Nat) (hn : n ≤ 1000) (ht : t < n) (hlt : ∀ k, k < n → lt k < 4) (xl : Tr) (hwl : WellTr xl) (ihl : DoesA n t lt a c xl) (xr : Tr) (hwr : WellTr xr) (ihr : DoesA n t lt a c xr) : DoesA n t lt a c (.node 5 xl xr) := by
  intro ok W v hT _ hW
  cases hT with
  | node g _ _ _ lv rv hok hb hTl hTr =>
    obtain ⟨c0, c1, c2⟩ := node_cellsA hb
    have HC : Hid (∀ W', W.grownBy W' none → W'.cell? ⟨g, 0, none⟩ = some (.int .i64 5) ∧ W'.cell? ⟨g, 1, none⟩ = some lv ∧ W'.cell? ⟨g, 2, none⟩ = some rv) := fun W' h => ⟨h.cell c0 (by simp), h.cell c1 (by simp), h.cell c2 (by simp)⟩
    obtain ⟨W1, hW1, g1, bx⟩ := way_box W a n c t
    have HW1 : Hid (W1 = W.alloc (.cells #[.slice a n c, .int .i64 (t : Int)] 39)) := hW1
    have G1 : Hid (W.grownBy W1 none) := g1
    have BX : Hid (∀ W', W1.grownBy W' none → W'.cell? ⟨W.heap.size, 0, none⟩ = some (.slice a n c) ∧ W'.cell? ⟨W.heap.size, 1, none⟩ = some (.int .i64 (t : Int))) := bx
    have HWY : Hid (WayW W a n lt) := hW
    have HS : Hid ((semT n t lt (.node 5 xl xr)) = (fun i => (semT n t lt xl) i && (semT n t lt xr) i)) := by show _ = _; funext i; simp [semT]
    obtain ⟨pL, rfl⟩ := tree_some hTl hwl
    obtain ⟨pR, rfl⟩ := tree_some hTr hwr
    have HL : Hid (∀ W', W1.grownBy W' none → Calls Try.prog 8 #[.pointer (some ⟨pL, 0, none⟩), .agg #[.slice a n c, .int .i64 (t : Int)]] W' (AlongT n (semT n t lt xl) W')) := fun W' h => ihl ok W' _ (hTl.idleA (grown_trans g1 h)) hwl (hW.kept (grown_trans g1 h))
    have SKL : Hid (∀ W', W1.grownBy W' none → W'.cell? ⟨g, 1, none⟩ = some (.pointer (some ⟨pL, 0, none⟩)) ∧ W'.cell? ⟨W.heap.size, 0, none⟩ = some (.slice a n c) ∧ W'.cell? ⟨W.heap.size, 1, none⟩ = some (.int .i64 (t : Int))) := fun W' h => ⟨(HC.out W' (grown_trans g1 h)).2.1, bx W' h⟩
    have HR : Hid (∀ W', W1.grownBy W' none → Calls Try.prog 8 #[.pointer (some ⟨pR, 0, none⟩), .agg #[.slice a n c, .int .i64 (t : Int)]] W' (AlongT n (semT n t lt xr) W')) := fun W' h => ihr ok W' _ (hTr.idleA (grown_trans g1 h)) hwr (hW.kept (grown_trans g1 h))
    have SKR : Hid (∀ W', W1.grownBy W' none → W'.cell? ⟨g, 2, none⟩ = some (.pointer (some ⟨pR, 0, none⟩)) ∧ W'.cell? ⟨W.heap.size, 0, none⟩ = some (.slice a n c) ∧ W'.cell? ⟨W.heap.size, 1, none⟩ = some (.int .i64 (t : Int))) := fun W' h => ⟨(HC.out W' (grown_trans g1 h)).2.2, bx W' h⟩
    obtain ⟨z0, z1, z2⟩ := HC.out W1 G1.out
    obtain ⟨y0, y1⟩ := BX.out W1 (grown_refl _ _)
    rw [HW1.out] at z0 z1 z2 y0 y1
    rw [HS.out]
    generalize semT n t lt xl = SL at *
    generalize semT n t lt xr = SR at *
    clear hb c0 c1 c2 hW1 g1 bx hW HS hTl ihl hTr ihr
    go_enter Try.func8, Try.ntmps8
    go_wp2_with fail
    rw [← HW1.out]
    clear z0 z1 z2 y0 y1
    go_region_held3 (fun W' => W'.cell? ⟨g, 1, none⟩ = some (.pointer (some ⟨pL, 0, none⟩)) ∧ W'.cell? ⟨W.heap.size, 0, none⟩ = some (.slice a n c) ∧ W'.cell? ⟨W.heap.size, 1, none⟩ = some (.int .i64 (t : Int))) (first | with_reducible exact SKL.out _ (grown_trans (grown_refl _ _) (grown_drew (grown_refl _ _))) | with_reducible exact SKL.out _ GL.out)
      (first
      | (go_at_call 8; refine (HL.out _ (grown_trans (grown_refl _ _) (grown_drew (grown_refl _ _)))).mono ?_; rintro e wL ⟨bL, rfl, hrL, hgL⟩; have RL : Hid (BRow wL bL n SL) := hrL; have GL : Hid (W1.grownBy wL none) := grown_trans (grown_trans (grown_refl _ _) (grown_drew (grown_refl _ _))) hgL; clear hrL hgL))
    obtain ⟨z0, z1, z2⟩ := HC.out wL (grown_trans G1.out GL.out)
    go_wp2_with fail
    clear z0 z1 z2
    go_region_held3 (fun W' => W'.cell? ⟨g, 2, none⟩ = some (.pointer (some ⟨pR, 0, none⟩)) ∧ W'.cell? ⟨W.heap.size, 0, none⟩ = some (.slice a n c) ∧ W'.cell? ⟨W.heap.size, 1, none⟩ = some (.int .i64 (t : Int))) (first | with_reducible exact SKR.out _ (grown_trans GL.out (grown_drew (grown_refl _ _))) | with_reducible exact SKR.out _ GR.out)
      (first
      | (go_at_call 8; refine (HR.out _ (grown_trans GL.out (grown_drew (grown_refl _ _)))).mono ?_; rintro e wR ⟨bR, rfl, hrR, hgR⟩; have RRt : Hid (BRow wR bR n SR) := hrR; have GLR : wL.grownBy wR none := grown_trans (grown_drew (grown_refl _ _)) hgR; have GR : Hid (W1.grownBy wR none) := grown_trans (grown_trans GL.out (grown_drew (grown_refl _ _))) hgR; clear hrR hgR))
    have RL2 : Hid (BRow wR bL n SL) := RL.out.kept GLR
    obtain ⟨z0, z1, z2⟩ := HC.out wR (grown_trans G1.out GR.out)
    obtain ⟨y0, y1⟩ := BX.out wR GR.out
    have hmkE : ∃ W5, (Instr.makeSlice 36 (.int .i64 (n : Int)) (.int .i64 (n : Int))).run Try.prog wR = .ok (.slice (some ⟨wR.heap.size, 0, none⟩) n n) W5 ∧ BRow W5 wR.heap.size n (fun _ => false) ∧ wR.grownBy W5 none ∧ W5.heap.size = wR.heap.size + 1 := bools_make wR n hn
    obtain ⟨W5, hmk, hrow, g5, s5⟩ := hmkE
    obtain ⟨gw, ow, rfl, hcw⟩ := HWY.out
    obtain ⟨go, hgo⟩ : ∃ go, wR.heap.size = go := ⟨_, rfl⟩
    rw [hgo] at hmk hrow s5
    have S5 : Hid (∀ wr, W5.grownBy wr (some go) → W1.grownBy wr none) := fun wr h => grown_new (grown_trans GR.out g5) h (by have := GR.out.size; omega)
    have CW : Hid (∀ k, k < n → W.cell? ⟨gw, ow + k, none⟩ = some (.int .i64 ((lt k : Nat) : Int))) := hcw
    have R0 : Hid (BRow W5 go n (upTo 0 (fun i => SL i && SR i))) := upTo_zero hrow
    have KA : Hid (∀ wr, W5.grownBy wr (some go) → BRow wr bL n SL) := fun wr h => by
      have h1 := RL2.out.kept g5
      exact h1.block (h.block bL h1.lt (by have := RL2.out.lt; simp; omega))
    have KB : Hid (∀ wr, W5.grownBy wr (some go) → BRow wr bR n SR) := fun wr h => by
      have h1 := RRt.out.kept g5
      exact h1.block (h.block bR h1.lt (by have := RRt.out.lt; simp; omega))
    have b0 := (BX.out W5 (grown_trans GR.out g5)).1
    have bM := (BX.out wR GR.out).1
    have HGO : Hid (W1.heap.size ≤ go) := by show W1.heap.size ≤ go; rw [← hgo]; exact GR.out.size
    clear hrow g5 s5 hcw hgo
    go_wp2_with fail
    clear hmk b0 bM z0 z1 z2 y0 y1
    go_loopw [48] (fun v wr => ∃ j : Nat, v = .int .i64 (j : Int) ∧ j ≤ n ∧ BRow wr go n (upTo j (fun i => SL i && SR i)) ∧ W5.grownBy wr (some go)) (fun v _ => n - (intOf v).toNat)
    case atStart => exact ⟨0, rfl, by omega, R0.out, grown_refl _ _⟩
    case round =>
      rename World => wr
      obtain ⟨j, rfl, hj, hr, hg⟩ := hrel
      have RR : Hid (BRow wr go n (upTo j (fun i => SL i && SR i))) := hr
      have GG : Hid (W5.grownBy wr (some go)) := hg
      have GW : Hid (W.grownBy wr none) := grown_trans G1.out (S5.out wr hg)
      obtain ⟨d0, d1, d2⟩ := HC.out wr GW.out
      obtain ⟨e0, e1⟩ := BX.out wr (S5.out wr hg)
      clear hr hg
      by_cases hjn : j < n
      · have q1 : (j : Int) < (n : Int) := by omega
        have q2 : (0 : Int) ≤ (j : Int) := by omega
        have w0 := GW.out.cell (CW.out j hjn) (by simp)
        have oc := RR.out.cell hjn
        have of := RR.out.frozen j
        have ka := (KA.out wr GG.out).cell hjn
        have kb := (KB.out wr GG.out).cell hjn
        have R2 : Hid (BRow (wr.setCell ⟨go, j, none⟩ (.bool (SL j && SR j))) go n (upTo (j + 1) (fun i => SL i && SR i))) := upTo_step RR.out hjn rfl
        have G2 : Hid (W5.grownBy (wr.setCell ⟨go, j, none⟩ (.bool (SL j && SR j))) (some go)) := grown_trans GG.out (grown_set _ _ _)
        generalize SL j = u1 at *
        generalize SR j = u2 at *
        cases u1 <;> cases u2
        all_goals
          go_wp2_with fail
          go_roundw
          case rel => exact ⟨j + 1, by go_num, by omega, R2.out, G2.out⟩
          case measure => simp [intOf]; omega
      · have q1 : ¬ (j : Int) < (n : Int) := by omega
        obtain rfl : j = n := by omega
        go_wp2_with fail
        go_ret
        exact ⟨go, rfl, upTo_all RR.out, GW.out⟩

set_option maxHeartbeats 3200000 in
set_option maxRecDepth 100000 in
theorem along_either (n t : Nat) (lt : Nat → Nat) (a : Option Addr) (c : Nat) (hn : n ≤ 1000) (ht : t < n) (hlt : ∀ k, k < n → lt k < 4) (xl : Tr) (hwl : WellTr xl) (ihl : DoesA n t lt a c xl) (xr : Tr) (hwr : WellTr xr) (ihr : DoesA n t lt a c xr) : DoesA n t lt a c (.node 6 xl xr) := by
  intro ok W v hT _ hW
  cases hT with
  | node g _ _ _ lv rv hok hb hTl hTr =>
    obtain ⟨c0, c1, c2⟩ := node_cellsA hb
    have HC : Hid (∀ W', W.grownBy W' none → W'.cell? ⟨g, 0, none⟩ = some (.int .i64 6) ∧ W'.cell? ⟨g, 1, none⟩ = some lv ∧ W'.cell? ⟨g, 2, none⟩ = some rv) := fun W' h => ⟨h.cell c0 (by simp), h.cell c1 (by simp), h.cell c2 (by simp)⟩
    obtain ⟨W1, hW1, g1, bx⟩ := way_box W a n c t
    have HW1 : Hid (W1 = W.alloc (.cells #[.slice a n c, .int .i64 (t : Int)] 39)) := hW1
    have G1 : Hid (W.grownBy W1 none) := g1
    have BX : Hid (∀ W', W1.grownBy W' none → W'.cell? ⟨W.heap.size, 0, none⟩ = some (.slice a n c) ∧ W'.cell? ⟨W.heap.size, 1, none⟩ = some (.int .i64 (t : Int))) := bx
    have HWY : Hid (WayW W a n lt) := hW
    have HS : Hid ((semT n t lt (.node 6 xl xr)) = (fun i => (semT n t lt xl) i || (semT n t lt xr) i)) := by show _ = _; funext i; simp [semT]
    obtain ⟨pL, rfl⟩ := tree_some hTl hwl
    obtain ⟨pR, rfl⟩ := tree_some hTr hwr
    have HL : Hid (∀ W', W1.grownBy W' none → Calls Try.prog 8 #[.pointer (some ⟨pL, 0, none⟩), .agg #[.slice a n c, .int .i64 (t : Int)]] W' (AlongT n (semT n t lt xl) W')) := fun W' h => ihl ok W' _ (hTl.idleA (grown_trans g1 h)) hwl (hW.kept (grown_trans g1 h))
    have SKL : Hid (∀ W', W1.grownBy W' none → W'.cell? ⟨g, 1, none⟩ = some (.pointer (some ⟨pL, 0, none⟩)) ∧ W'.cell? ⟨W.heap.size, 0, none⟩ = some (.slice a n c) ∧ W'.cell? ⟨W.heap.size, 1, none⟩ = some (.int .i64 (t : Int))) := fun W' h => ⟨(HC.out W' (grown_trans g1 h)).2.1, bx W' h⟩
    have HR : Hid (∀ W', W1.grownBy W' none → Calls Try.prog 8 #[.pointer (some ⟨pR, 0, none⟩), .agg #[.slice a n c, .int .i64 (t : Int)]] W' (AlongT n (semT n t lt xr) W')) := fun W' h => ihr ok W' _ (hTr.idleA (grown_trans g1 h)) hwr (hW.kept (grown_trans g1 h))
    have SKR : Hid (∀ W', W1.grownBy W' none → W'.cell? ⟨g, 2, none⟩ = some (.pointer (some ⟨pR, 0, none⟩)) ∧ W'.cell? ⟨W.heap.size, 0, none⟩ = some (.slice a n c) ∧ W'.cell? ⟨W.heap.size, 1, none⟩ = some (.int .i64 (t : Int))) := fun W' h => ⟨(HC.out W' (grown_trans g1 h)).2.2, bx W' h⟩
    obtain ⟨z0, z1, z2⟩ := HC.out W1 G1.out
    obtain ⟨y0, y1⟩ := BX.out W1 (grown_refl _ _)
    rw [HW1.out] at z0 z1 z2 y0 y1
    rw [HS.out]
    generalize semT n t lt xl = SL at *
    generalize semT n t lt xr = SR at *
    clear hb c0 c1 c2 hW1 g1 bx hW HS hTl ihl hTr ihr
    go_enter Try.func8, Try.ntmps8
    go_wp2_with fail
    rw [← HW1.out]
    clear z0 z1 z2 y0 y1
    go_region_held3 (fun W' => W'.cell? ⟨g, 1, none⟩ = some (.pointer (some ⟨pL, 0, none⟩)) ∧ W'.cell? ⟨W.heap.size, 0, none⟩ = some (.slice a n c) ∧ W'.cell? ⟨W.heap.size, 1, none⟩ = some (.int .i64 (t : Int))) (first | with_reducible exact SKL.out _ (grown_trans (grown_refl _ _) (grown_drew (grown_refl _ _))) | with_reducible exact SKL.out _ GL.out)
      (first
      | (go_at_call 8; refine (HL.out _ (grown_trans (grown_refl _ _) (grown_drew (grown_refl _ _)))).mono ?_; rintro e wL ⟨bL, rfl, hrL, hgL⟩; have RL : Hid (BRow wL bL n SL) := hrL; have GL : Hid (W1.grownBy wL none) := grown_trans (grown_trans (grown_refl _ _) (grown_drew (grown_refl _ _))) hgL; clear hrL hgL))
    obtain ⟨z0, z1, z2⟩ := HC.out wL (grown_trans G1.out GL.out)
    go_wp2_with fail
    clear z0 z1 z2
    go_region_held3 (fun W' => W'.cell? ⟨g, 2, none⟩ = some (.pointer (some ⟨pR, 0, none⟩)) ∧ W'.cell? ⟨W.heap.size, 0, none⟩ = some (.slice a n c) ∧ W'.cell? ⟨W.heap.size, 1, none⟩ = some (.int .i64 (t : Int))) (first | with_reducible exact SKR.out _ (grown_trans GL.out (grown_drew (grown_refl _ _))) | with_reducible exact SKR.out _ GR.out)
      (first
      | (go_at_call 8; refine (HR.out _ (grown_trans GL.out (grown_drew (grown_refl _ _)))).mono ?_; rintro e wR ⟨bR, rfl, hrR, hgR⟩; have RRt : Hid (BRow wR bR n SR) := hrR; have GLR : wL.grownBy wR none := grown_trans (grown_drew (grown_refl _ _)) hgR; have GR : Hid (W1.grownBy wR none) := grown_trans (grown_trans GL.out (grown_drew (grown_refl _ _))) hgR; clear hrR hgR))
    have RL2 : Hid (BRow wR bL n SL) := RL.out.kept GLR
    obtain ⟨z0, z1, z2⟩ := HC.out wR (grown_trans G1.out GR.out)
    obtain ⟨y0, y1⟩ := BX.out wR GR.out
    have hmkE : ∃ W5, (Instr.makeSlice 36 (.int .i64 (n : Int)) (.int .i64 (n : Int))).run Try.prog wR = .ok (.slice (some ⟨wR.heap.size, 0, none⟩) n n) W5 ∧ BRow W5 wR.heap.size n (fun _ => false) ∧ wR.grownBy W5 none ∧ W5.heap.size = wR.heap.size + 1 := bools_make wR n hn
    obtain ⟨W5, hmk, hrow, g5, s5⟩ := hmkE
    obtain ⟨gw, ow, rfl, hcw⟩ := HWY.out
    obtain ⟨go, hgo⟩ : ∃ go, wR.heap.size = go := ⟨_, rfl⟩
    rw [hgo] at hmk hrow s5
    have S5 : Hid (∀ wr, W5.grownBy wr (some go) → W1.grownBy wr none) := fun wr h => grown_new (grown_trans GR.out g5) h (by have := GR.out.size; omega)
    have CW : Hid (∀ k, k < n → W.cell? ⟨gw, ow + k, none⟩ = some (.int .i64 ((lt k : Nat) : Int))) := hcw
    have R0 : Hid (BRow W5 go n (upTo 0 (fun i => SL i || SR i))) := upTo_zero hrow
    have KA : Hid (∀ wr, W5.grownBy wr (some go) → BRow wr bL n SL) := fun wr h => by
      have h1 := RL2.out.kept g5
      exact h1.block (h.block bL h1.lt (by have := RL2.out.lt; simp; omega))
    have KB : Hid (∀ wr, W5.grownBy wr (some go) → BRow wr bR n SR) := fun wr h => by
      have h1 := RRt.out.kept g5
      exact h1.block (h.block bR h1.lt (by have := RRt.out.lt; simp; omega))
    have b0 := (BX.out W5 (grown_trans GR.out g5)).1
    have bM := (BX.out wR GR.out).1
    have HGO : Hid (W1.heap.size ≤ go) := by show W1.heap.size ≤ go; rw [← hgo]; exact GR.out.size
    clear hrow g5 s5 hcw hgo
    go_wp2_with fail
    clear hmk b0 bM z0 z1 z2 y0 y1
    go_loopw [48] (fun v wr => ∃ j : Nat, v = .int .i64 (j : Int) ∧ j ≤ n ∧ BRow wr go n (upTo j (fun i => SL i || SR i)) ∧ W5.grownBy wr (some go)) (fun v _ => n - (intOf v).toNat)
    case atStart => exact ⟨0, rfl, by omega, R0.out, grown_refl _ _⟩
    case round =>
      rename World => wr
      obtain ⟨j, rfl, hj, hr, hg⟩ := hrel
      have RR : Hid (BRow wr go n (upTo j (fun i => SL i || SR i))) := hr
      have GG : Hid (W5.grownBy wr (some go)) := hg
      have GW : Hid (W.grownBy wr none) := grown_trans G1.out (S5.out wr hg)
      obtain ⟨d0, d1, d2⟩ := HC.out wr GW.out
      obtain ⟨e0, e1⟩ := BX.out wr (S5.out wr hg)
      clear hr hg
      by_cases hjn : j < n
      · have q1 : (j : Int) < (n : Int) := by omega
        have q2 : (0 : Int) ≤ (j : Int) := by omega
        have w0 := GW.out.cell (CW.out j hjn) (by simp)
        have oc := RR.out.cell hjn
        have of := RR.out.frozen j
        have ka := (KA.out wr GG.out).cell hjn
        have kb := (KB.out wr GG.out).cell hjn
        have R2 : Hid (BRow (wr.setCell ⟨go, j, none⟩ (.bool (SL j || SR j))) go n (upTo (j + 1) (fun i => SL i || SR i))) := upTo_step RR.out hjn rfl
        have G2 : Hid (W5.grownBy (wr.setCell ⟨go, j, none⟩ (.bool (SL j || SR j))) (some go)) := grown_trans GG.out (grown_set _ _ _)
        generalize SL j = u1 at *
        generalize SR j = u2 at *
        cases u1 <;> cases u2
        all_goals
          go_wp2_with fail
          go_roundw
          case rel => exact ⟨j + 1, by go_num, by omega, R2.out, G2.out⟩
          case measure => simp [intOf]; omega
      · have q1 : ¬ (j : Int) < (n : Int) := by omega
        obtain rfl : j = n := by omega
        go_wp2_with fail
        go_ret
        exact ⟨go, rfl, upTo_all RR.out, GW.out⟩

set_option maxHeartbeats 3200000 in
set_option maxRecDepth 100000 in
theorem along_until (n t : Nat) (lt : Nat → Nat) (a : Option Addr) (c : Nat) (hn : n ≤ 1000) (ht : t < n) (hlt : ∀ k, k < n → lt k < 4) (xl : Tr) (hwl : WellTr xl) (ihl : DoesA n t lt a c xl) (xr : Tr) (hwr : WellTr xr) (ihr : DoesA n t lt a c xr) : DoesA n t lt a c (.node 8 xl xr) := by
  intro ok W v hT _ hW
  cases hT with
  | node g _ _ _ lv rv hok hb hTl hTr =>
    obtain ⟨c0, c1, c2⟩ := node_cellsA hb
    have HC : Hid (∀ W', W.grownBy W' none → W'.cell? ⟨g, 0, none⟩ = some (.int .i64 8) ∧ W'.cell? ⟨g, 1, none⟩ = some lv ∧ W'.cell? ⟨g, 2, none⟩ = some rv) := fun W' h => ⟨h.cell c0 (by simp), h.cell c1 (by simp), h.cell c2 (by simp)⟩
    obtain ⟨W1, hW1, g1, bx⟩ := way_box W a n c t
    have HW1 : Hid (W1 = W.alloc (.cells #[.slice a n c, .int .i64 (t : Int)] 39)) := hW1
    have G1 : Hid (W.grownBy W1 none) := g1
    have BX : Hid (∀ W', W1.grownBy W' none → W'.cell? ⟨W.heap.size, 0, none⟩ = some (.slice a n c) ∧ W'.cell? ⟨W.heap.size, 1, none⟩ = some (.int .i64 (t : Int))) := bx
    have HWY : Hid (WayW W a n lt) := hW
    have HS : Hid ((semT n t lt (.node 8 xl xr)) = (cmB n t (semT n t lt xl) (semT n t lt xr))) := by show _ = _; funext i; simp [semT]
    obtain ⟨pL, rfl⟩ := tree_some hTl hwl
    obtain ⟨pR, rfl⟩ := tree_some hTr hwr
    have HL : Hid (∀ W', W1.grownBy W' none → Calls Try.prog 8 #[.pointer (some ⟨pL, 0, none⟩), .agg #[.slice a n c, .int .i64 (t : Int)]] W' (AlongT n (semT n t lt xl) W')) := fun W' h => ihl ok W' _ (hTl.idleA (grown_trans g1 h)) hwl (hW.kept (grown_trans g1 h))
    have SKL : Hid (∀ W', W1.grownBy W' none → W'.cell? ⟨g, 1, none⟩ = some (.pointer (some ⟨pL, 0, none⟩)) ∧ W'.cell? ⟨W.heap.size, 0, none⟩ = some (.slice a n c) ∧ W'.cell? ⟨W.heap.size, 1, none⟩ = some (.int .i64 (t : Int))) := fun W' h => ⟨(HC.out W' (grown_trans g1 h)).2.1, bx W' h⟩
    have HR : Hid (∀ W', W1.grownBy W' none → Calls Try.prog 8 #[.pointer (some ⟨pR, 0, none⟩), .agg #[.slice a n c, .int .i64 (t : Int)]] W' (AlongT n (semT n t lt xr) W')) := fun W' h => ihr ok W' _ (hTr.idleA (grown_trans g1 h)) hwr (hW.kept (grown_trans g1 h))
    have SKR : Hid (∀ W', W1.grownBy W' none → W'.cell? ⟨g, 2, none⟩ = some (.pointer (some ⟨pR, 0, none⟩)) ∧ W'.cell? ⟨W.heap.size, 0, none⟩ = some (.slice a n c) ∧ W'.cell? ⟨W.heap.size, 1, none⟩ = some (.int .i64 (t : Int))) := fun W' h => ⟨(HC.out W' (grown_trans g1 h)).2.2, bx W' h⟩
    obtain ⟨z0, z1, z2⟩ := HC.out W1 G1.out
    obtain ⟨y0, y1⟩ := BX.out W1 (grown_refl _ _)
    rw [HW1.out] at z0 z1 z2 y0 y1
    rw [HS.out]
    generalize semT n t lt xl = SL at *
    generalize semT n t lt xr = SR at *
    clear hb c0 c1 c2 hW1 g1 bx hW HS hTl ihl hTr ihr
    go_enter Try.func8, Try.ntmps8
    go_wp2_with fail
    rw [← HW1.out]
    clear z0 z1 z2 y0 y1
    go_region_held3 (fun W' => W'.cell? ⟨g, 1, none⟩ = some (.pointer (some ⟨pL, 0, none⟩)) ∧ W'.cell? ⟨W.heap.size, 0, none⟩ = some (.slice a n c) ∧ W'.cell? ⟨W.heap.size, 1, none⟩ = some (.int .i64 (t : Int))) (first | with_reducible exact SKL.out _ (grown_trans (grown_refl _ _) (grown_drew (grown_refl _ _))) | with_reducible exact SKL.out _ GL.out)
      (first
      | (go_at_call 8; refine (HL.out _ (grown_trans (grown_refl _ _) (grown_drew (grown_refl _ _)))).mono ?_; rintro e wL ⟨bL, rfl, hrL, hgL⟩; have RL : Hid (BRow wL bL n SL) := hrL; have GL : Hid (W1.grownBy wL none) := grown_trans (grown_trans (grown_refl _ _) (grown_drew (grown_refl _ _))) hgL; clear hrL hgL))
    obtain ⟨z0, z1, z2⟩ := HC.out wL (grown_trans G1.out GL.out)
    go_wp2_with fail
    clear z0 z1 z2
    go_region_held3 (fun W' => W'.cell? ⟨g, 2, none⟩ = some (.pointer (some ⟨pR, 0, none⟩)) ∧ W'.cell? ⟨W.heap.size, 0, none⟩ = some (.slice a n c) ∧ W'.cell? ⟨W.heap.size, 1, none⟩ = some (.int .i64 (t : Int))) (first | with_reducible exact SKR.out _ (grown_trans GL.out (grown_drew (grown_refl _ _))) | with_reducible exact SKR.out _ GR.out)
      (first
      | (go_at_call 8; refine (HR.out _ (grown_trans GL.out (grown_drew (grown_refl _ _)))).mono ?_; rintro e wR ⟨bR, rfl, hrR, hgR⟩; have RRt : Hid (BRow wR bR n SR) := hrR; have GLR : wL.grownBy wR none := grown_trans (grown_drew (grown_refl _ _)) hgR; have GR : Hid (W1.grownBy wR none) := grown_trans (grown_trans GL.out (grown_drew (grown_refl _ _))) hgR; clear hrR hgR))
    have RL2 : Hid (BRow wR bL n SL) := RL.out.kept GLR
    obtain ⟨z0, z1, z2⟩ := HC.out wR (grown_trans G1.out GR.out)
    obtain ⟨y0, y1⟩ := BX.out wR GR.out
    go_wp2_with fail
    clear z0 z1 z2 y0 y1
    refine (comes_any n t c n n bL bR a SL SR wR hn ht RL2.out RRt.out).mono ?_
    rintro e w9 ⟨g9, rfl, hr9, hg9⟩
    have R9 : Hid (BRow w9 g9 n (cmB n t SL SR)) := hr9
    have G9 : Hid (W.grownBy w9 none) := grown_trans G1.out (grown_trans GR.out hg9)
    clear hr9 hg9
    go_wp2_with fail
    go_ret
    exact ⟨g9, rfl, R9.out, G9.out⟩

theorem doesA_all (n t : Nat) (lt : Nat → Nat) (a : Option Addr) (c : Nat) (hn : n ≤ 1000) (ht : t < n) (hlt : ∀ k, k < n → lt k < 4) : ∀ x, WellTr x → DoesA n t lt a c x := by
  intro x
  induction x with
  | nil => intro h; exact h.elim
  | node k l r ihl ihr =>
    rintro (⟨hk, rfl, rfl⟩ | ⟨hk, hl, rfl⟩ | ⟨hk, hl, hr⟩)
    · have : k = 0 ∨ k = 1 ∨ k = 2 ∨ k = 3 := by omega
      rcases this with rfl | rfl | rfl | rfl
      · exact along_never n t lt a c hn ht hlt
      · exact along_always n t lt a c hn ht hlt
      · exact along_isP n t lt a c hn ht hlt
      · exact along_isQ n t lt a c hn ht hlt
    · rcases hk with rfl | rfl
      · exact along_not n t lt a c hn ht hlt l hl (ihl hl)
      · exact along_next n t lt a c hn ht hlt l hl (ihl hl)
    · rcases hk with rfl | rfl | rfl
      · exact along_both n t lt a c hn ht hlt l hl (ihl hl) r hr (ihr hr)
      · exact along_either n t lt a c hn ht hlt l hl (ihl hl) r hr (ihr hr)
      · exact along_until n t lt a c hn ht hlt l hl (ihl hl) r hr (ihr hr)

end Go.Proofs.Ytneialmpaiejcaa
