/- The program's Bar. -/
import Derived.Test.YtnlkdihfoekjmaaGwBar
import Derived.Test.YtnlkdihfoekjmaaGwChk
namespace Go.Proofs.Ytnlkdihfoekjmaa
open Go.RowKit
set_option linter.unusedVariables false

set_option maxHeartbeats 1600000 in
theorem bar_bad (x : Trs) (b e : Option Addr) (d f : Nat) (w : World) (h : TrsAt w x b e) (hc : checkW x ≠ 0) :
    Calls Try.prog 6 #[trsV x.L x.N b x.R.length d x.S e x.M.length f] w (Says (.tuple #[.slice none 0 0, .bool false, .int .i64 (checkW x)]) w) := by
  have HC : Hid (∀ W, w.grownBy W none → Calls Try.prog 7 #[trsV x.L x.N b x.R.length d x.S e x.M.length f] W (Says (.int .i64 (checkW x)) W)) := fun W hW => checkW_any x b e d f W (h.grown hW)
  obtain ⟨W0, hW0, g0, s0, bx0⟩ := box5_new w (.int .i64 x.L) (.int .i64 x.N) (.slice b x.R.length d) (.int .i64 x.S) (.slice e x.M.length f) 25
  obtain ⟨x0, x1, x2, x3, x4⟩ := bx0 W0 (grown_refl _ _)
  have HW0 : Hid (W0 = _) := hW0
  have G0 : Hid (w.grownBy W0 none) := g0
  rw [hW0] at x0 x1 x2 x3 x4
  generalize checkW x = ce at *
  have d1 : (ce != 0) = true := by simpa using hc
  clear h hc hW0 g0 s0 bx0
  go_enter Try.func6, Try.ntmps6
  go_wp2_with fail
  rw [← HW0.out]
  refine (HC.out _ G0.out).mono ?_
  rintro E w2 ⟨rfl, hg2⟩
  have GF : Hid (w.grownBy w2 none) := grown_trans G0.out hg2
  clear hg2 HC
  go_wp2_with fail
  exact bodyPost_ret (v := .tuple #[.slice none 0 0, .bool false, .int .i64 ce]) (by simp [results, Try.results6, go_sem]) rfl ⟨rfl, GF.out⟩

def BarEPost (x : Trs) (N : Nat) (w : World) (E : Ending) (w' : World) : Prop :=
  ∃ W M, GwS x N W M ∧ w.grownBy w' none ∧ ((W x.S.toNat = 1 ∧ ∃ g, E = .returned (.tuple #[.slice (some ⟨g, 0, none⟩) x.R.length x.R.length, .bool true, .int .i64 0]) ∧ IRow w' g x.R.length x.R.length (wayW x N (mvW x N W M))) ∨ (W x.S.toNat = 0 ∧ E = .returned (.tuple #[.slice none 0 0, .bool false, .int .i64 0])))

set_option maxHeartbeats 3200000 in
set_option maxRecDepth 100000 in
theorem bar_good (x : Trs) (b e : Option Addr) (d f N : Nat) (w : World) (h : TrsAt w x b e) (hc : checkW x = 0) (hN : x.N = N) :
    Calls Try.prog 6 #[trsV x.L x.N b x.R.length d x.S e x.M.length f] w (BarEPost x N w) := by
  have hG := goodW_of hc
  have HC : Hid (∀ W, w.grownBy W none → Calls Try.prog 7 #[trsV x.L x.N b x.R.length d x.S e x.M.length f] W (Says (.int .i64 0) W)) := fun W hW => hc ▸ checkW_any x b e d f W (h.grown hW)
  have HD : Hid (∀ W, w.grownBy W none → Calls Try.prog 12 #[trsV x.L x.N b x.R.length d x.S e x.M.length f] W (DescPost x N W)) := fun W hW => descent_any x b e d f N W (h.grown hW) hG hN
  have HB : Hid (∀ (bw bm : Nat) (V : Nat → Int) W, w.grownBy W none → IRow W bm (N + x.R.length) (N + x.R.length) V → Calls Try.prog 14 #[trsV x.L x.N b x.R.length d x.S e x.M.length f, .agg #[.slice (some ⟨bw, 0, none⟩) (N + x.R.length) (N + x.R.length), .slice (some ⟨bm, 0, none⟩) (N + x.R.length) (N + x.R.length)]] W (BarPost x N V W)) := fun bw bm V W hW hV => barred_any x b e d f N bw bm V W (h.grown hW) hG hN hV
  have hst := hG.st
  obtain ⟨s, hs⟩ : ∃ s : Nat, x.S = s := ⟨x.S.toNat, by omega⟩
  have hsN : s < N := by omega
  have HP : Hid (∀ (W' M' : Nat → Int) (E : Ending) (V : World), GwS x N W' M' → w.grownBy V none → ((W' s = 1 ∧ ∃ g, E = .returned (.tuple #[.slice (some ⟨g, 0, none⟩) x.R.length x.R.length, .bool true, .int .i64 0]) ∧ IRow V g x.R.length x.R.length (wayW x N (mvW x N W' M'))) ∨ (W' s = 0 ∧ E = .returned (.tuple #[.slice none 0 0, .bool false, .int .i64 0]))) → BarEPost x N w E V) := fun W' M' E V h1 h2 h3 => ⟨W', M', h1, h2, by rw [hs]; exact h3⟩
  have hsz := hG.r6
  have hn6 := hG.n6
  obtain ⟨Po, hPo⟩ : ∃ Po, Po = BarEPost x N w := ⟨_, rfl⟩
  rw [← hPo] at HP ⊢
  rw [hs, hN] at HC HD HB ⊢
  obtain ⟨W0, hW0, g0, s0, bx0⟩ := box5_new w (.int .i64 x.L) (.int .i64 (N : Int)) (.slice b x.R.length d) (.int .i64 (s : Int)) (.slice e x.M.length f) 25
  have BX : Hid (∀ W', W0.grownBy W' none → W'.cell? ⟨w.heap.size, 0, none⟩ = some (.int .i64 x.L) ∧ W'.cell? ⟨w.heap.size, 1, none⟩ = some (.int .i64 (N : Int)) ∧ W'.cell? ⟨w.heap.size, 2, none⟩ = some (.slice b x.R.length d) ∧ W'.cell? ⟨w.heap.size, 3, none⟩ = some (.int .i64 (s : Int)) ∧ W'.cell? ⟨w.heap.size, 4, none⟩ = some (.slice e x.M.length f)) := bx0
  obtain ⟨x0, x1, x2, x3, x4⟩ := BX.out W0 (grown_refl _ _)
  have HW0 : Hid (W0 = _) := hW0
  have G0 : Hid (w.grownBy W0 none) := g0
  rw [hW0] at x0 x1 x2 x3 x4
  clear h hc hG hW0 g0 s0 bx0 hPo hst hs hN
  go_enter Try.func6, Try.ntmps6
  go_wp2_with fail
  rw [← HW0.out]
  clear x0 x1 x2 x3 x4
  refine (HC.out _ G0.out).mono ?_
  rintro E w2 ⟨rfl, hg2⟩
  have G2 : Hid (W0.grownBy w2 none) := hg2
  obtain ⟨x0, x1, x2, x3, x4⟩ := BX.out w2 hg2
  clear hg2 HC
  go_wp2_with fail
  clear x0 x1 x2 x3 x4
  refine (HD.out _ (grown_trans G0.out G2.out)).mono ?_
  rintro E w3 ⟨bw, bm, Wf, Mf, rfl, hiw, him, hsol, hg3⟩
  obtain ⟨n, hn⟩ : ∃ n, N + x.R.length = n := ⟨_, rfl⟩
  rw [hn] at hiw him HB ⊢
  obtain ⟨W4, hW4⟩ : ∃ W4, W4 = w3.alloc (.cells #[.slice (some ⟨bw, 0, none⟩) n n, .slice (some ⟨bm, 0, none⟩) n n] 40) := ⟨_, rfl⟩
  have g4 : w3.grownBy W4 none := by rw [hW4]; exact grown_alloc _ _
  have hb4 := heap_alloc_new w3 (.cells #[.slice (some ⟨bw, 0, none⟩) n n, .slice (some ⟨bm, 0, none⟩) n n] 40)
  rw [← hW4] at hb4
  have y0 : W4.cell? ⟨w3.heap.size, 0, none⟩ = some (.slice (some ⟨bw, 0, none⟩) n n) := by rw [cell_of_row _ _ 0 _ _ (0, 0) hb4]; rfl
  have y1 : W4.cell? ⟨w3.heap.size, 1, none⟩ = some (.slice (some ⟨bm, 0, none⟩) n n) := by rw [cell_of_row _ _ 1 _ _ (0, 0) hb4]; rfl
  have G4 : Hid (W0.grownBy W4 none) := grown_trans G2.out (grown_trans hg3 g4)
  obtain ⟨x0, x1, x2, x3, x4⟩ := BX.out W4 G4.out
  have cs := (hiw.kept g4).cell (i := s) (by omega)
  have hwho : Wf s = 0 ∨ Wf s = 1 := hsol.who s (gw_at (by omega))
  have HV : Hid (IRow W4 bm n n (mvW x N Wf Mf)) := him.kept g4
  have HS : Hid (GwS x N Wf Mf) := hsol
  have hsn : (s : Int) < (n : Int) := by omega
  have HW4 : Hid (W4 = _) := hW4
  rw [hW4] at y0 y1 x0 x1 x2 x3 x4 cs
  obtain ⟨v, hv⟩ : ∃ v, Wf s = v := ⟨_, rfl⟩
  have HWv : Hid (Wf s = v) := hv
  rw [hv] at cs hwho
  clear hiw him hsol hg3 g4 hb4 hW4 hn HD hv
  rcases hwho with h0 | h1
  · have d1 : (v != 1) = true := by rw [h0]; rfl
    have Fin : Hid (Po (.returned (.tuple #[.slice none 0 0, .bool false, .int .i64 0])) W4) := HP.out Wf Mf _ W4 HS.out (grown_trans G0.out G4.out) (.inr ⟨HWv.out.trans h0, rfl⟩)
    clear h0
    go_wp2_with fail
    rw [← HW4.out]
    exact bodyPost_ret (v := .tuple #[.slice none 0 0, .bool false, .int .i64 0]) (by simp [results, Try.results6, go_sem]) rfl Fin.out
  · have d1 : (v != 1) = false := by rw [h1]; rfl
    have H1 : Hid (Wf s = 1) := HWv.out.trans h1
    clear h1
    go_wp2_with fail
    rw [← HW4.out]
    refine (HB.out bw bm _ W4 (grown_trans G0.out G4.out) HV.out).mono ?_
    rintro E w5 ⟨g, rfl, hr5, hg5⟩
    have Fin : Hid (Po (.returned (.tuple #[.slice (some ⟨g, 0, none⟩) x.R.length x.R.length, .bool true, .int .i64 0])) w5) := HP.out Wf Mf _ w5 HS.out (grown_trans G0.out (grown_trans G4.out hg5)) (.inl ⟨H1.out, g, rfl, hr5⟩)
    clear hr5 hg5 x0 x1 x2 x3 x4 y0 y1 cs
    go_wp2_with fail
    exact bodyPost_ret (v := .tuple #[.slice (some ⟨g, 0, none⟩) x.R.length x.R.length, .bool true, .int .i64 0]) (by simp [results, Try.results6, go_sem]) rfl Fin.out

end Go.Proofs.Ytnlkdihfoekjmaa
