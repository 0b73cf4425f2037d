/- The program's along: what a node says of each place. -/
import Derived.Test.YtneialmpaiejcaaXSem
import Derived.Test.YtneialmpaiejcaaWComes
import Derived.Test.YtneialmpaiejcaaTBase
namespace Go.Proofs.Ytneialmpaiejcaa
open Go.RowKit Go.Shelf
set_option linter.unusedVariables false
set_option linter.unusedSimpArgs false

/-- The letters of a way. -/
def WayW (W : World) (a : Option Addr) (n : Nat) (lt : Nat → Nat) : Prop := ∃ g o, a = some ⟨g, o, none⟩ ∧ ∀ k, k < n → W.cell? ⟨g, o + k, none⟩ = some (.int .i64 ((lt k : Nat) : Int))
theorem WayW.kept {W W' : World} {a : Option Addr} {n : Nat} {lt : Nat → Nat} (h : WayW W a n lt) (hg : W.grownBy W' none) : WayW W' a n lt := by
  obtain ⟨g, o, h1, h2⟩ := h
  exact ⟨g, o, h1, fun k hk => hg.cell (h2 k hk) (by simp)⟩
theorem four {x : Nat} (h : x < 4) : x = 0 ∨ x = 1 ∨ x = 2 ∨ x = 3 := by omega
theorem hasP_any (x : Nat) (h : x < 4) (w : World) : Calls Try.prog 15 #[.int .i64 (x : Int)] w (Says (.bool (x % 2 == 1)) w) := by
  rcases four h with rfl | rfl | rfl | rfl
  all_goals
    go_enter Try.func15, Try.ntmps15
    go_wp2
    go_ret
    exact ⟨rfl, grown_refl _ _⟩
theorem hasQ_any (x : Nat) (h : x < 4) (w : World) : Calls Try.prog 16 #[.int .i64 (x : Int)] w (Says (.bool (decide (2 ≤ x))) w) := by
  rcases four h with rfl | rfl | rfl | rfl
  all_goals
    go_enter Try.func16, Try.ntmps16
    go_wp2
    go_ret
    exact ⟨rfl, grown_refl _ _⟩
/-- What along leaves behind. -/
def AlongT (n : Nat) (o : Nat → Bool) (W : World) (e : Ending) (w' : World) : Prop := ∃ g, e = .returned (.slice (some ⟨g, 0, none⟩) n n) ∧ BRow w' g n o ∧ W.grownBy w' none
def DoesA (n t : Nat) (lt : Nat → Nat) (a : Option Addr) (c : Nat) (x : Tr) : Prop := ∀ (ok : Nat → Prop) (W : World) (v : Value), TreeAt ok W v x → WellTr x → WayW W a n lt →
  Calls Try.prog 8 #[v, .agg #[.slice a n c, .int .i64 (t : Int)]] W (AlongT n (semT n t lt x) W)
theorem node_cellsA {W : World} {g k : Nat} {lv rv : Value} (hb : W.heap[g]? = some (.cells #[.int .i64 k, lv, rv, .int .i64 0] 50 (0, 0))) :
    W.cell? ⟨g, 0, none⟩ = some (.int .i64 k) ∧ W.cell? ⟨g, 1, none⟩ = some lv ∧ W.cell? ⟨g, 2, none⟩ = some rv :=
  ⟨by rw [cell_of_row W g 0 _ _ (0, 0) hb]; rfl, by rw [cell_of_row W g 1 _ _ (0, 0) hb]; rfl, by rw [cell_of_row W g 2 _ _ (0, 0) hb]; rfl⟩
theorem TreeAt.idleA {ok : Nat → Prop} {w w' : World} {v : Value} {t : Tr} (h : TreeAt ok w v t) (hg : w.grownBy w' none) : TreeAt ok w' v t := h.kept fun g hk hl => ⟨hk, hg.block g hl (by simp)⟩
/-- The box of the way. -/
theorem way_box (w : World) (a : Option Addr) (n c t : Nat) : ∃ W, W = w.alloc (.cells #[.slice a n c, .int .i64 (t : Int)] 39) ∧ w.grownBy W none ∧ ∀ W', W.grownBy W' none → W'.cell? ⟨w.heap.size, 0, none⟩ = some (.slice a n c) ∧ W'.cell? ⟨w.heap.size, 1, none⟩ = some (.int .i64 (t : Int)) := by
  refine ⟨_, rfl, grown_alloc _ _, fun W' h => ?_⟩
  have hb := heap_alloc_new w (.cells #[.slice a n c, .int .i64 (t : Int)] 39)
  have hc : ∀ k v, #[Value.slice a n c, .int .i64 (t : Int)][k]? = some v → W'.cell? ⟨w.heap.size, k, none⟩ = some v := fun k v hv => h.cell (by rw [cell_of_row _ _ k _ _ (0, 0) hb]; exact hv) (by simp)
  exact ⟨hc 0 _ rfl, hc 1 _ rfl⟩
/-- The row that is filled, up to a place. -/
def upTo (j : Nat) (S : Nat → Bool) : Nat → Bool := fun q => if q < j then S q else false
theorem upTo_step {W : World} {g n j : Nat} {S : Nat → Bool} (h : BRow W g n (upTo j S)) (hj : j < n) {b : Bool} (hb : b = S j) : BRow (W.setCell ⟨g, j, none⟩ (.bool b)) g n (upTo (j + 1) S) := by
  refine (h.set hj b).congr fun i hi => ?_
  unfold upTo
  by_cases e : i = j
  · subst e; rw [if_pos rfl, if_pos (by omega), hb]
  · rw [if_neg e]
    by_cases h2 : i < j
    · rw [if_pos h2, if_pos (by omega)]
    · rw [if_neg h2, if_neg (by omega)]
theorem upTo_skip {W : World} {g n j : Nat} {S : Nat → Bool} (h : BRow W g n (upTo j S)) (hb : S j = false) : BRow W g n (upTo (j + 1) S) := by
  refine h.congr fun i hi => ?_
  unfold upTo
  by_cases e : i < j
  · rw [if_pos e, if_pos (by omega)]
  · rw [if_neg e]
    by_cases h2 : i < j + 1
    · obtain rfl : i = j := by omega
      rw [if_pos h2, hb]
    · rw [if_neg h2]
theorem upTo_all {W : World} {g n : Nat} {S : Nat → Bool} (h : BRow W g n (upTo n S)) : BRow W g n S := h.congr fun i hi => by unfold upTo; rw [if_pos hi]
theorem upTo_zero {W : World} {g n : Nat} {S : Nat → Bool} (h : BRow W g n (fun _ => false)) : BRow W g n (upTo 0 S) := h.congr fun i hi => by unfold upTo; rw [if_neg (by omega)]

set_option maxHeartbeats 3200000 in
set_option maxRecDepth 100000 in
theorem along_never (n t : Nat) (lt : Nat → Nat) (a : Option Addr) (c : Nat) (hn : n ≤ 1000) (ht : t < n) (hlt : ∀ k, k < n → lt k < 4) : DoesA n t lt a c (.node 0 .nil .nil) := by
  intro ok W v hT _ hW
  cases hT with
  | node g _ _ _ lv rv hok hb hTl hTr =>
    obtain ⟨c0, c1, c2⟩ := node_cellsA hb
    have HC : Hid (∀ W', W.grownBy W' none → W'.cell? ⟨g, 0, none⟩ = some (.int .i64 0) ∧ W'.cell? ⟨g, 1, none⟩ = some lv ∧ W'.cell? ⟨g, 2, none⟩ = some rv) := fun W' h => ⟨h.cell c0 (by simp), h.cell c1 (by simp), h.cell c2 (by simp)⟩
    obtain ⟨W1, hW1, g1, bx⟩ := way_box W a n c t
    have HW1 : Hid (W1 = W.alloc (.cells #[.slice a n c, .int .i64 (t : Int)] 39)) := hW1
    have G1 : Hid (W.grownBy W1 none) := g1
    have BX : Hid (∀ W', W1.grownBy W' none → W'.cell? ⟨W.heap.size, 0, none⟩ = some (.slice a n c) ∧ W'.cell? ⟨W.heap.size, 1, none⟩ = some (.int .i64 (t : Int))) := bx
    have HWY : Hid (WayW W a n lt) := hW
    have HS : Hid ((semT n t lt (.node 0 .nil .nil)) = (fun i => false)) := by show _ = _; funext i; simp [semT]
    cases hTl
    cases hTr
    obtain ⟨z0, z1, z2⟩ := HC.out W1 G1.out
    obtain ⟨y0, y1⟩ := BX.out W1 (grown_refl _ _)
    rw [HW1.out] at z0 z1 z2 y0 y1
    have WMe : ∃ WM, WM = W1 := ⟨_, rfl⟩
    obtain ⟨WM, hWM⟩ := WMe
    have GM : Hid (W1.grownBy WM none) := by rw [hWM]; exact grown_refl _ _
    rw [HS.out]
    clear hb c0 c1 c2 hW1 g1 bx hW HS
    have hmkE : ∃ W5, (Instr.makeSlice 36 (.int .i64 (n : Int)) (.int .i64 (n : Int))).run Try.prog WM = .ok (.slice (some ⟨WM.heap.size, 0, none⟩) n n) W5 ∧ BRow W5 WM.heap.size n (fun _ => false) ∧ WM.grownBy W5 none ∧ W5.heap.size = WM.heap.size + 1 := bools_make WM n hn
    obtain ⟨W5, hmk, hrow, g5, s5⟩ := hmkE
    obtain ⟨gw, ow, rfl, hcw⟩ := HWY.out
    obtain ⟨go, hgo⟩ : ∃ go, WM.heap.size = go := ⟨_, rfl⟩
    rw [hgo] at hmk hrow s5
    have S5 : Hid (∀ wr, W5.grownBy wr (some go) → W1.grownBy wr none) := fun wr h => grown_new (grown_trans GM.out g5) h (by have := GM.out.size; omega)
    have CW : Hid (∀ k, k < n → W.cell? ⟨gw, ow + k, none⟩ = some (.int .i64 ((lt k : Nat) : Int))) := hcw
    have R0 : Hid (BRow W5 go n (upTo 0 (fun i => false))) := upTo_zero hrow
    have b0 := (BX.out W5 (grown_trans GM.out g5)).1
    have bM := (BX.out WM GM.out).1
    have HGO : Hid (W1.heap.size ≤ go) := by show W1.heap.size ≤ go; rw [← hgo]; exact GM.out.size
    clear hrow g5 s5 hcw hgo
    rw [hWM, HW1.out] at hmk
    go_enter Try.func8, Try.ntmps8
    go_wp2_with fail
    clear hmk b0 bM z0 z1 z2 y0 y1 hWM
    go_loopw [48] (fun v wr => ∃ j : Nat, v = .int .i64 (j : Int) ∧ j ≤ n ∧ BRow wr go n (upTo j (fun i => false)) ∧ W5.grownBy wr (some go)) (fun v _ => n - (intOf v).toNat)
    case atStart => exact ⟨0, rfl, by omega, R0.out, grown_refl _ _⟩
    case round =>
      rename World => wr
      obtain ⟨j, rfl, hj, hr, hg⟩ := hrel
      have RR : Hid (BRow wr go n (upTo j (fun i => false))) := hr
      have GG : Hid (W5.grownBy wr (some go)) := hg
      have GW : Hid (W.grownBy wr none) := grown_trans G1.out (S5.out wr hg)
      obtain ⟨d0, d1, d2⟩ := HC.out wr GW.out
      obtain ⟨e0, e1⟩ := BX.out wr (S5.out wr hg)
      clear hr hg
      by_cases hjn : j < n
      · have q1 : (j : Int) < (n : Int) := by omega
        have q2 : (0 : Int) ≤ (j : Int) := by omega
        have w0 := GW.out.cell (CW.out j hjn) (by simp)
        have oc := RR.out.cell hjn
        have of := RR.out.frozen j
        have R2 : Hid (BRow wr go n (upTo (j + 1) (fun i => false))) := upTo_skip RR.out rfl
        go_wp2_with fail
        go_roundw
        case rel => exact ⟨j + 1, by go_num, by omega, R2.out, GG.out⟩
        case measure => simp [intOf]; omega
      · have q1 : ¬ (j : Int) < (n : Int) := by omega
        obtain rfl : j = n := by omega
        go_wp2_with fail
        go_ret
        exact ⟨go, rfl, upTo_all RR.out, GW.out⟩

set_option maxHeartbeats 3200000 in
set_option maxRecDepth 100000 in
theorem along_always (n t : Nat) (lt : Nat → Nat) (a : Option Addr) (c : Nat) (hn : n ≤ 1000) (ht : t < n) (hlt : ∀ k, k < n → lt k < 4) : DoesA n t lt a c (.node 1 .nil .nil) := by
  intro ok W v hT _ hW
  cases hT with
  | node g _ _ _ lv rv hok hb hTl hTr =>
    obtain ⟨c0, c1, c2⟩ := node_cellsA hb
    have HC : Hid (∀ W', W.grownBy W' none → W'.cell? ⟨g, 0, none⟩ = some (.int .i64 1) ∧ W'.cell? ⟨g, 1, none⟩ = some lv ∧ W'.cell? ⟨g, 2, none⟩ = some rv) := fun W' h => ⟨h.cell c0 (by simp), h.cell c1 (by simp), h.cell c2 (by simp)⟩
    obtain ⟨W1, hW1, g1, bx⟩ := way_box W a n c t
    have HW1 : Hid (W1 = W.alloc (.cells #[.slice a n c, .int .i64 (t : Int)] 39)) := hW1
    have G1 : Hid (W.grownBy W1 none) := g1
    have BX : Hid (∀ W', W1.grownBy W' none → W'.cell? ⟨W.heap.size, 0, none⟩ = some (.slice a n c) ∧ W'.cell? ⟨W.heap.size, 1, none⟩ = some (.int .i64 (t : Int))) := bx
    have HWY : Hid (WayW W a n lt) := hW
    have HS : Hid ((semT n t lt (.node 1 .nil .nil)) = (fun i => true)) := by show _ = _; funext i; simp [semT]
    cases hTl
    cases hTr
    obtain ⟨z0, z1, z2⟩ := HC.out W1 G1.out
    obtain ⟨y0, y1⟩ := BX.out W1 (grown_refl _ _)
    rw [HW1.out] at z0 z1 z2 y0 y1
    have WMe : ∃ WM, WM = W1 := ⟨_, rfl⟩
    obtain ⟨WM, hWM⟩ := WMe
    have GM : Hid (W1.grownBy WM none) := by rw [hWM]; exact grown_refl _ _
    rw [HS.out]
    clear hb c0 c1 c2 hW1 g1 bx hW HS
    have hmkE : ∃ W5, (Instr.makeSlice 36 (.int .i64 (n : Int)) (.int .i64 (n : Int))).run Try.prog WM = .ok (.slice (some ⟨WM.heap.size, 0, none⟩) n n) W5 ∧ BRow W5 WM.heap.size n (fun _ => false) ∧ WM.grownBy W5 none ∧ W5.heap.size = WM.heap.size + 1 := bools_make WM n hn
    obtain ⟨W5, hmk, hrow, g5, s5⟩ := hmkE
    obtain ⟨gw, ow, rfl, hcw⟩ := HWY.out
    obtain ⟨go, hgo⟩ : ∃ go, WM.heap.size = go := ⟨_, rfl⟩
    rw [hgo] at hmk hrow s5
    have S5 : Hid (∀ wr, W5.grownBy wr (some go) → W1.grownBy wr none) := fun wr h => grown_new (grown_trans GM.out g5) h (by have := GM.out.size; omega)
    have CW : Hid (∀ k, k < n → W.cell? ⟨gw, ow + k, none⟩ = some (.int .i64 ((lt k : Nat) : Int))) := hcw
    have R0 : Hid (BRow W5 go n (upTo 0 (fun i => true))) := upTo_zero hrow
    have b0 := (BX.out W5 (grown_trans GM.out g5)).1
    have bM := (BX.out WM GM.out).1
    have HGO : Hid (W1.heap.size ≤ go) := by show W1.heap.size ≤ go; rw [← hgo]; exact GM.out.size
    clear hrow g5 s5 hcw hgo
    rw [hWM, HW1.out] at hmk
    go_enter Try.func8, Try.ntmps8
    go_wp2_with fail
    clear hmk b0 bM z0 z1 z2 y0 y1 hWM
    go_loopw [48] (fun v wr => ∃ j : Nat, v = .int .i64 (j : Int) ∧ j ≤ n ∧ BRow wr go n (upTo j (fun i => true)) ∧ W5.grownBy wr (some go)) (fun v _ => n - (intOf v).toNat)
    case atStart => exact ⟨0, rfl, by omega, R0.out, grown_refl _ _⟩
    case round =>
      rename World => wr
      obtain ⟨j, rfl, hj, hr, hg⟩ := hrel
      have RR : Hid (BRow wr go n (upTo j (fun i => true))) := hr
      have GG : Hid (W5.grownBy wr (some go)) := hg
      have GW : Hid (W.grownBy wr none) := grown_trans G1.out (S5.out wr hg)
      obtain ⟨d0, d1, d2⟩ := HC.out wr GW.out
      obtain ⟨e0, e1⟩ := BX.out wr (S5.out wr hg)
      clear hr hg
      by_cases hjn : j < n
      · have q1 : (j : Int) < (n : Int) := by omega
        have q2 : (0 : Int) ≤ (j : Int) := by omega
        have w0 := GW.out.cell (CW.out j hjn) (by simp)
        have oc := RR.out.cell hjn
        have of := RR.out.frozen j
        have R2 : Hid (BRow (wr.setCell ⟨go, j, none⟩ (.bool (true))) go n (upTo (j + 1) (fun i => true))) := upTo_step RR.out hjn rfl
        have G2 : Hid (W5.grownBy (wr.setCell ⟨go, j, none⟩ (.bool (true))) (some go)) := grown_trans GG.out (grown_set _ _ _)
        go_wp2_with fail
        go_roundw
        case rel => exact ⟨j + 1, by go_num, by omega, R2.out, G2.out⟩
        case measure => simp [intOf]; omega
      · have q1 : ¬ (j : Int) < (n : Int) := by omega
        obtain rfl : j = n := by omega
        go_wp2_with fail
        go_ret
        exact ⟨go, rfl, upTo_all RR.out, GW.out⟩

set_option maxHeartbeats 3200000 in
set_option maxRecDepth 100000 in
theorem along_isP (n t : Nat) (lt : Nat → Nat) (a : Option Addr) (c : Nat) (hn : n ≤ 1000) (ht : t < n) (hlt : ∀ k, k < n → lt k < 4) : DoesA n t lt a c (.node 2 .nil .nil) := by
  intro ok W v hT _ hW
  cases hT with
  | node g _ _ _ lv rv hok hb hTl hTr =>
    obtain ⟨c0, c1, c2⟩ := node_cellsA hb
    have HC : Hid (∀ W', W.grownBy W' none → W'.cell? ⟨g, 0, none⟩ = some (.int .i64 2) ∧ W'.cell? ⟨g, 1, none⟩ = some lv ∧ W'.cell? ⟨g, 2, none⟩ = some rv) := fun W' h => ⟨h.cell c0 (by simp), h.cell c1 (by simp), h.cell c2 (by simp)⟩
    obtain ⟨W1, hW1, g1, bx⟩ := way_box W a n c t
    have HW1 : Hid (W1 = W.alloc (.cells #[.slice a n c, .int .i64 (t : Int)] 39)) := hW1
    have G1 : Hid (W.grownBy W1 none) := g1
    have BX : Hid (∀ W', W1.grownBy W' none → W'.cell? ⟨W.heap.size, 0, none⟩ = some (.slice a n c) ∧ W'.cell? ⟨W.heap.size, 1, none⟩ = some (.int .i64 (t : Int))) := bx
    have HWY : Hid (WayW W a n lt) := hW
    have HS : Hid ((semT n t lt (.node 2 .nil .nil)) = (fun i => lt i % 2 == 1)) := by show _ = _; funext i; simp [semT]
    cases hTl
    cases hTr
    obtain ⟨z0, z1, z2⟩ := HC.out W1 G1.out
    obtain ⟨y0, y1⟩ := BX.out W1 (grown_refl _ _)
    rw [HW1.out] at z0 z1 z2 y0 y1
    have WMe : ∃ WM, WM = W1 := ⟨_, rfl⟩
    obtain ⟨WM, hWM⟩ := WMe
    have GM : Hid (W1.grownBy WM none) := by rw [hWM]; exact grown_refl _ _
    rw [HS.out]
    clear hb c0 c1 c2 hW1 g1 bx hW HS
    have hmkE : ∃ W5, (Instr.makeSlice 36 (.int .i64 (n : Int)) (.int .i64 (n : Int))).run Try.prog WM = .ok (.slice (some ⟨WM.heap.size, 0, none⟩) n n) W5 ∧ BRow W5 WM.heap.size n (fun _ => false) ∧ WM.grownBy W5 none ∧ W5.heap.size = WM.heap.size + 1 := bools_make WM n hn
    obtain ⟨W5, hmk, hrow, g5, s5⟩ := hmkE
    obtain ⟨gw, ow, rfl, hcw⟩ := HWY.out
    obtain ⟨go, hgo⟩ : ∃ go, WM.heap.size = go := ⟨_, rfl⟩
    rw [hgo] at hmk hrow s5
    have S5 : Hid (∀ wr, W5.grownBy wr (some go) → W1.grownBy wr none) := fun wr h => grown_new (grown_trans GM.out g5) h (by have := GM.out.size; omega)
    have CW : Hid (∀ k, k < n → W.cell? ⟨gw, ow + k, none⟩ = some (.int .i64 ((lt k : Nat) : Int))) := hcw
    have R0 : Hid (BRow W5 go n (upTo 0 (fun i => lt i % 2 == 1))) := upTo_zero hrow
    have b0 := (BX.out W5 (grown_trans GM.out g5)).1
    have bM := (BX.out WM GM.out).1
    have HGO : Hid (W1.heap.size ≤ go) := by show W1.heap.size ≤ go; rw [← hgo]; exact GM.out.size
    clear hrow g5 s5 hcw hgo
    rw [hWM, HW1.out] at hmk
    go_enter Try.func8, Try.ntmps8
    go_wp2_with fail
    clear hmk b0 bM z0 z1 z2 y0 y1 hWM
    go_loopw [48] (fun v wr => ∃ j : Nat, v = .int .i64 (j : Int) ∧ j ≤ n ∧ BRow wr go n (upTo j (fun i => lt i % 2 == 1)) ∧ W5.grownBy wr (some go)) (fun v _ => n - (intOf v).toNat)
    case atStart => exact ⟨0, rfl, by omega, R0.out, grown_refl _ _⟩
    case round =>
      rename World => wr
      obtain ⟨j, rfl, hj, hr, hg⟩ := hrel
      have RR : Hid (BRow wr go n (upTo j (fun i => lt i % 2 == 1))) := hr
      have GG : Hid (W5.grownBy wr (some go)) := hg
      have GW : Hid (W.grownBy wr none) := grown_trans G1.out (S5.out wr hg)
      obtain ⟨d0, d1, d2⟩ := HC.out wr GW.out
      obtain ⟨e0, e1⟩ := BX.out wr (S5.out wr hg)
      clear hr hg
      by_cases hjn : j < n
      · have q1 : (j : Int) < (n : Int) := by omega
        have q2 : (0 : Int) ≤ (j : Int) := by omega
        have w0 := GW.out.cell (CW.out j hjn) (by simp)
        have oc := RR.out.cell hjn
        have of := RR.out.frozen j
        have KC : Hid (Calls Try.prog 15 #[.int .i64 ((lt j : Nat) : Int)] wr (Says (.bool (lt j % 2 == 1)) wr)) := hasP_any (lt j) (hlt j hjn) wr
        have RS : Hid (∀ w7, wr.grownBy w7 none → BRow (w7.setCell ⟨go, j, none⟩ (.bool (lt j % 2 == 1))) go n (upTo (j + 1) (fun i => lt i % 2 == 1)) ∧ W5.grownBy (w7.setCell ⟨go, j, none⟩ (.bool (lt j % 2 == 1))) (some go) ∧ w7.cell? ⟨go, j, none⟩ = some (.bool (upTo j (fun i => lt i % 2 == 1) j)) ∧ w7.frozen? ⟨go, j, none⟩ = false) := fun w7 h7 => ⟨upTo_step (RR.out.kept h7) hjn rfl, grown_trans (grown_trans GG.out (grown_some h7)) (grown_set _ _ _), (RR.out.kept h7).cell hjn, (RR.out.kept h7).frozen j⟩
        generalize (lt j % 2 == 1) = bb at *
        go_wp2_with fail
        refine KC.out.mono ?_
        rintro e w7 ⟨rfl, hg7⟩
        obtain ⟨r7, g7, x7, f7⟩ := RS.out w7 hg7
        have R7 : Hid _ := r7
        have G7 : Hid _ := g7
        clear hg7 r7 g7 RS oc of
        go_wp2_with fail
        go_roundw
        case rel => exact ⟨j + 1, by go_num, by omega, R7.out, G7.out⟩
        case measure => simp [intOf]; omega
      · have q1 : ¬ (j : Int) < (n : Int) := by omega
        obtain rfl : j = n := by omega
        go_wp2_with fail
        go_ret
        exact ⟨go, rfl, upTo_all RR.out, GW.out⟩

set_option maxHeartbeats 3200000 in
set_option maxRecDepth 100000 in
theorem along_isQ (n t : Nat) (lt : Nat → Nat) (a : Option Addr) (c : Nat) (hn : n ≤ 1000) (ht : t < n) (hlt : ∀ k, k < n → lt k < 4) : DoesA n t lt a c (.node 3 .nil .nil) := by
  intro ok W v hT _ hW
  cases hT with
  | node g _ _ _ lv rv hok hb hTl hTr =>
    obtain ⟨c0, c1, c2⟩ := node_cellsA hb
    have HC : Hid (∀ W', W.grownBy W' none → W'.cell? ⟨g, 0, none⟩ = some (.int .i64 3) ∧ W'.cell? ⟨g, 1, none⟩ = some lv ∧ W'.cell? ⟨g, 2, none⟩ = some rv) := fun W' h => ⟨h.cell c0 (by simp), h.cell c1 (by simp), h.cell c2 (by simp)⟩
    obtain ⟨W1, hW1, g1, bx⟩ := way_box W a n c t
    have HW1 : Hid (W1 = W.alloc (.cells #[.slice a n c, .int .i64 (t : Int)] 39)) := hW1
    have G1 : Hid (W.grownBy W1 none) := g1
    have BX : Hid (∀ W', W1.grownBy W' none → W'.cell? ⟨W.heap.size, 0, none⟩ = some (.slice a n c) ∧ W'.cell? ⟨W.heap.size, 1, none⟩ = some (.int .i64 (t : Int))) := bx
    have HWY : Hid (WayW W a n lt) := hW
    have HS : Hid ((semT n t lt (.node 3 .nil .nil)) = (fun i => decide (2 ≤ lt i))) := by show _ = _; funext i; simp [semT]
    cases hTl
    cases hTr
    obtain ⟨z0, z1, z2⟩ := HC.out W1 G1.out
    obtain ⟨y0, y1⟩ := BX.out W1 (grown_refl _ _)
    rw [HW1.out] at z0 z1 z2 y0 y1
    have WMe : ∃ WM, WM = W1 := ⟨_, rfl⟩
    obtain ⟨WM, hWM⟩ := WMe
    have GM : Hid (W1.grownBy WM none) := by rw [hWM]; exact grown_refl _ _
    rw [HS.out]
    clear hb c0 c1 c2 hW1 g1 bx hW HS
    have hmkE : ∃ W5, (Instr.makeSlice 36 (.int .i64 (n : Int)) (.int .i64 (n : Int))).run Try.prog WM = .ok (.slice (some ⟨WM.heap.size, 0, none⟩) n n) W5 ∧ BRow W5 WM.heap.size n (fun _ => false) ∧ WM.grownBy W5 none ∧ W5.heap.size = WM.heap.size + 1 := bools_make WM n hn
    obtain ⟨W5, hmk, hrow, g5, s5⟩ := hmkE
    obtain ⟨gw, ow, rfl, hcw⟩ := HWY.out
    obtain ⟨go, hgo⟩ : ∃ go, WM.heap.size = go := ⟨_, rfl⟩
    rw [hgo] at hmk hrow s5
    have S5 : Hid (∀ wr, W5.grownBy wr (some go) → W1.grownBy wr none) := fun wr h => grown_new (grown_trans GM.out g5) h (by have := GM.out.size; omega)
    have CW : Hid (∀ k, k < n → W.cell? ⟨gw, ow + k, none⟩ = some (.int .i64 ((lt k : Nat) : Int))) := hcw
    have R0 : Hid (BRow W5 go n (upTo 0 (fun i => decide (2 ≤ lt i)))) := upTo_zero hrow
    have b0 := (BX.out W5 (grown_trans GM.out g5)).1
    have bM := (BX.out WM GM.out).1
    have HGO : Hid (W1.heap.size ≤ go) := by show W1.heap.size ≤ go; rw [← hgo]; exact GM.out.size
    clear hrow g5 s5 hcw hgo
    rw [hWM, HW1.out] at hmk
    go_enter Try.func8, Try.ntmps8
    go_wp2_with fail
    clear hmk b0 bM z0 z1 z2 y0 y1 hWM
    go_loopw [48] (fun v wr => ∃ j : Nat, v = .int .i64 (j : Int) ∧ j ≤ n ∧ BRow wr go n (upTo j (fun i => decide (2 ≤ lt i))) ∧ W5.grownBy wr (some go)) (fun v _ => n - (intOf v).toNat)
    case atStart => exact ⟨0, rfl, by omega, R0.out, grown_refl _ _⟩
    case round =>
      rename World => wr
      obtain ⟨j, rfl, hj, hr, hg⟩ := hrel
      have RR : Hid (BRow wr go n (upTo j (fun i => decide (2 ≤ lt i)))) := hr
      have GG : Hid (W5.grownBy wr (some go)) := hg
      have GW : Hid (W.grownBy wr none) := grown_trans G1.out (S5.out wr hg)
      obtain ⟨d0, d1, d2⟩ := HC.out wr GW.out
      obtain ⟨e0, e1⟩ := BX.out wr (S5.out wr hg)
      clear hr hg
      by_cases hjn : j < n
      · have q1 : (j : Int) < (n : Int) := by omega
        have q2 : (0 : Int) ≤ (j : Int) := by omega
        have w0 := GW.out.cell (CW.out j hjn) (by simp)
        have oc := RR.out.cell hjn
        have of := RR.out.frozen j
        have KC : Hid (Calls Try.prog 16 #[.int .i64 ((lt j : Nat) : Int)] wr (Says (.bool (decide (2 ≤ lt j))) wr)) := hasQ_any (lt j) (hlt j hjn) wr
        have RS : Hid (∀ w7, wr.grownBy w7 none → BRow (w7.setCell ⟨go, j, none⟩ (.bool (decide (2 ≤ lt j)))) go n (upTo (j + 1) (fun i => decide (2 ≤ lt i))) ∧ W5.grownBy (w7.setCell ⟨go, j, none⟩ (.bool (decide (2 ≤ lt j)))) (some go) ∧ w7.cell? ⟨go, j, none⟩ = some (.bool (upTo j (fun i => decide (2 ≤ lt i)) j)) ∧ w7.frozen? ⟨go, j, none⟩ = false) := fun w7 h7 => ⟨upTo_step (RR.out.kept h7) hjn rfl, grown_trans (grown_trans GG.out (grown_some h7)) (grown_set _ _ _), (RR.out.kept h7).cell hjn, (RR.out.kept h7).frozen j⟩
        generalize (decide (2 ≤ lt j)) = bb at *
        go_wp2_with fail
        refine KC.out.mono ?_
        rintro e w7 ⟨rfl, hg7⟩
        obtain ⟨r7, g7, x7, f7⟩ := RS.out w7 hg7
        have R7 : Hid _ := r7
        have G7 : Hid _ := g7
        clear hg7 r7 g7 RS oc of
        go_wp2_with fail
        go_roundw
        case rel => exact ⟨j + 1, by go_num, by omega, R7.out, G7.out⟩
        case measure => simp [intOf]; omega
      · have q1 : ¬ (j : Int) < (n : Int) := by omega
        obtain rfl : j = n := by omega
        go_wp2_with fail
        go_ret
        exact ⟨go, rfl, upTo_all RR.out, GW.out⟩

end Go.Proofs.Ytneialmpaiejcaa
