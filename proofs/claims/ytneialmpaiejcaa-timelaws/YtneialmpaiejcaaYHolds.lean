/- The program's Holds over time. -/
import Derived.Test.YtneialmpaiejcaaYWay
import Derived.Test.YtneialmpaiejcaaXNode
import Derived.Test.YtneialmpaiejcaaTParse
import Derived.Test.YtneialmpaiejcaaULasP
namespace Go.Proofs.Ytneialmpaiejcaa
open Go.RowKit Go.Shelf
set_option linter.unusedVariables false
set_option linter.unusedSimpArgs false

theorem codeQ_bad {s : ByteArray} {c : Int} {j : Nat} (h : parseQ s = .bad c j) : codeQ (parseQ s) ≠ 0 := by
  rw [h]
  show c ≠ 0
  unfold parseQ at h
  by_cases hs : 4000 < s.size
  · rw [if_pos hs] at h; cases h; omega
  · rw [if_neg hs] at h
    have hfw := formQ_fwd (s := s) (lvQ_fwd (s.size + 1)).2
    cases hR : formQ s (lvQ s (s.size + 1)).2 0 0 0 0 with
    | bad c' j' => rw [hR] at h; cases h; have := (hfw.bad hR (by omega) (by omega) (by omega)).1; omega
    | good f x y z =>
      rw [hR] at h
      simp only at h
      by_cases hj : x < s.size
      · rw [if_pos hj] at h; cases h; omega
      · rw [if_neg hj] at h; cases h

theorem TParsed.gr {w w' : World} {R : TRes} {e : Ending} (h : TParsed w R e w') : ∃ v, e = .returned (.tuple #[v, .agg #[.int .i64 (codeQ R), .int .i64 (atQ R)]]) ∧ w.grownBy w' none := by
  obtain ⟨v, h1, h2⟩ := h.flat
  exact ⟨v, h1, grown_of_below h2⟩

theorem las_box (w : World) (u v : Value) : ∃ W, W = w.alloc (.cells #[u, v] 24) ∧ w.grownBy W none ∧ ∀ W', W.grownBy W' none → W'.cell? ⟨w.heap.size, 0, none⟩ = some u ∧ W'.cell? ⟨w.heap.size, 1, none⟩ = some v := by
  refine ⟨_, rfl, grown_alloc _ _, fun W' h => ?_⟩
  have hb := heap_alloc_new w (.cells #[u, v] 24)
  have hc : ∀ k x, #[u, v][k]? = some x → W'.cell? ⟨w.heap.size, k, none⟩ = some x := fun k x hx => h.cell (by rw [cell_of_row _ _ k _ _ (0, 0) hb]; exact hx) (by simp)
  exact ⟨hc 0 _ rfl, hc 1 _ rfl⟩

set_option maxHeartbeats 1600000 in
theorem holdsT_bad (s : ByteArray) (ah al : Option Addr) (ch cl hn ln : Nat) (w : World) (hm : s.size ≤ maxLen) (hc : codeQ (parseQ s) ≠ 0) :
    Calls Try.prog 4 #[.string s, lasV ah hn ch al ln cl] w (Says (.tuple #[.bool false, .int .i64 4]) w) := by
  have H : Hid (∀ W, Calls Try.prog 6 #[.string s] W fun e w' => ∃ v, e = .returned (.tuple #[v, .agg #[.int .i64 (codeQ (parseQ s)), .int .i64 (atQ (parseQ s))]]) ∧ W.grownBy w' none) := fun W => (readT_any s W hm).mono fun e w' h => h.gr
  generalize codeQ (parseQ s) = c at *
  generalize atQ (parseQ s) = a at *
  have f1 : (c != 0) = true := by simpa using hc
  have f2 : (c == 0) = false := by simpa using hc
  obtain ⟨W1, hW1, g1, _⟩ := las_box w (.slice ah hn ch) (.slice al ln cl)
  have HW1 : Hid (W1 = _) := hW1
  have G1 : Hid (w.grownBy W1 none) := g1
  clear hW1 g1
  go_enter Try.func4, Try.ntmps4
  go_wp2_with fail
  rw [← HW1.out]
  refine (H.out _).mono ?_
  rintro e w2 ⟨v, rfl, hg⟩
  have G : Hid (∀ o, w.grownBy (w2.alloc o) none) := fun o => grown_trans G1.out (grown_trans hg (grown_alloc _ _))
  clear hg
  go_wp2_with fail
  go_ret2
  exact ⟨rfl, G.out _⟩

set_option maxHeartbeats 1600000 in
theorem holdsT_las (s : ByteArray) (ah al : Option Addr) (ch cl : Nat) (hs ls : List Int) (w : World) (hm : s.size ≤ maxLen) (hc : codeQ (parseQ s) = 0) (hh : Ints w ah hs) (hl : Ints w al ls) (hhm : hs.length ≤ maxLen) (hlm : ls.length ≤ maxLen) (hy : lassoF 4 hs ls ≠ 0) :
    Calls Try.prog 4 #[.string s, lasV ah hs.length ch al ls.length cl] w (Says (.tuple #[.bool false, .int .i64 (lassoF 4 hs ls)]) w) := by
  have H : Hid (∀ W, Calls Try.prog 6 #[.string s] W fun e w' => ∃ v, e = .returned (.tuple #[v, .agg #[.int .i64 0, .int .i64 (atQ (parseQ s))]]) ∧ W.grownBy w' none) := fun W => (readT_any s W hm).mono fun e w' h => by have := h.gr; rwa [hc] at this
  have HL : Hid (∀ W, w.grownBy W none → Calls Try.prog 7 #[.int .i64 4, lasV ah hs.length ch al ls.length cl] W (Says (.int .i64 (lassoF 4 hs ls)) W)) := fun W hW => lassoP_any 4 ah al ch cl hs ls W (hh.grown hW) (hl.grown hW) hhm hlm
  generalize atQ (parseQ s) = a at *
  generalize lassoF 4 hs ls = y at *
  have f1 : (y != 0) = true := by simpa using hy
  have f2 : (y == 0) = false := by simpa using hy
  obtain ⟨W1, hW1, g1, bx⟩ := las_box w (.slice ah hs.length ch) (.slice al ls.length cl)
  have HW1 : Hid (W1 = _) := hW1
  have G1 : Hid (w.grownBy W1 none) := g1
  have BX : Hid (∀ W', W1.grownBy W' none → W'.cell? ⟨w.heap.size, 0, none⟩ = some (.slice ah hs.length ch) ∧ W'.cell? ⟨w.heap.size, 1, none⟩ = some (.slice al ls.length cl)) := bx
  clear hW1 g1 bx hh hl
  go_enter Try.func4, Try.ntmps4
  go_wp2_with fail
  rw [← HW1.out]
  refine (H.out _).mono ?_
  rintro e w2 ⟨v, rfl, hg⟩
  have G : Hid (∀ o, W1.grownBy (w2.alloc o) none) := fun o => grown_trans hg (grown_alloc _ _)
  have x0 := fun o => (BX.out _ (G.out o)).1
  have x1 := fun o => (BX.out _ (G.out o)).2
  clear hg
  go_wp2_with fail
  refine (HL.out _ (grown_trans G1.out (G.out _))).mono ?_
  rintro e w3 ⟨rfl, hg3⟩
  have G3 : Hid (w.grownBy w3 none) := grown_trans (grown_trans G1.out (G.out _)) hg3
  clear hg3
  go_wp2_with fail
  go_ret2
  exact ⟨rfl, G3.out⟩

set_option maxHeartbeats 1600000 in
theorem holdsT_good (s : ByteArray) (ah al : Option Addr) (ch cl : Nat) (hs ls : List Int) (w : World) (hm : s.size ≤ maxLen) (f : Fm) (j n t : Nat) (hp : parseQ s = .good f j n t) (hh : Ints w ah hs) (hl : Ints w al ls) (h1 : hs.length ≤ 60) (h2 : ls.length ≤ 60) (h0 : 0 < ls.length) (hy : lassoF 4 hs ls = 0)
    (lt : Nat → Nat) (hlt : ∀ j, j < hs.length + ls.length → (hs ++ ls).getD j 0 = ((lt j : Nat) : Int) ∧ lt j < 4) :
    Calls Try.prog 4 #[.string s, lasV ah hs.length ch al ls.length cl] w (Says (.tuple #[.bool (semT (hs.length + ls.length) hs.length lt (trOf f) 0), .int .i64 0]) w) := by
  have H : Hid (∀ W, Calls Try.prog 6 #[.string s] W fun e w' => ∃ v, e = .returned (.tuple #[v, .agg #[.int .i64 0, .int .i64 0]]) ∧ W.grownBy w' none ∧ TreeAt (fun k => W.heap.size ≤ k) w' v (trOf f)) := fun W => (readT_any s W hm).mono fun e w' h => by
    rw [hp] at h
    obtain ⟨hb, v, he, ht⟩ := h
    exact ⟨v, he, grown_of_below hb, ht⟩
  have HL : Hid (∀ W, w.grownBy W none → Calls Try.prog 7 #[.int .i64 4, lasV ah hs.length ch al ls.length cl] W (Says (.int .i64 0) W)) := fun W hW => by
    have := lassoP_any 4 ah al ch cl hs ls W (hh.grown hW) (hl.grown hW) (by unfold maxLen; omega) (by unfold maxLen; omega)
    rwa [hy] at this
  have HN : Hid (∀ W, w.grownBy W none → Calls Try.prog 9 #[lasV ah hs.length ch al ls.length cl] W (NewW hs ls W)) := fun W hW => newWay_any hs ls ah al ch cl W (hh.grown hW) (hl.grown hW) h1 h2 h0
  have HA : Hid (∀ (ok : Nat → Prop) (W : World) (v : Value) (g cap : Nat), TreeAt ok W v (trOf f) → (∀ k, k < hs.length + ls.length → W.cell? ⟨g, k, none⟩ = some (.int .i64 ((hs ++ ls).getD k 0))) → Calls Try.prog 8 #[v, .agg #[.slice (some ⟨g, 0, none⟩) (hs.length + ls.length) cap, .int .i64 (hs.length : Int)]] W (AlongT (hs.length + ls.length) (semT (hs.length + ls.length) hs.length lt (trOf f)) W)) := fun ok W v g cap ht hk =>
    doesA_all (hs.length + ls.length) hs.length lt (some ⟨g, 0, none⟩) cap (by omega) (by omega) (fun k hk => (hlt k hk).2) (trOf f) (wellTr_trOf f) ok W v ht (wellTr_trOf f) ⟨g, 0, rfl, fun k hk' => by rw [Nat.zero_add, hk k hk', (hlt k hk').1]⟩
  have HS : Hid (WellTr (trOf f)) := wellTr_trOf f
  generalize semT (hs.length + ls.length) hs.length lt (trOf f) = b at *
  generalize trOf f = tr at *
  obtain ⟨W1, hW1, g1, bx⟩ := las_box w (.slice ah hs.length ch) (.slice al ls.length cl)
  have HW1 : Hid (W1 = _) := hW1
  have G1 : Hid (w.grownBy W1 none) := g1
  have BX : Hid (∀ W', W1.grownBy W' none → W'.cell? ⟨w.heap.size, 0, none⟩ = some (.slice ah hs.length ch) ∧ W'.cell? ⟨w.heap.size, 1, none⟩ = some (.slice al ls.length cl)) := bx
  have qn : (0 : Int) < ((hs.length + ls.length : Nat) : Int) := by omega
  clear hW1 g1 bx hh hl hp hy hlt
  go_enter Try.func4, Try.ntmps4
  go_wp2_with fail
  rw [← HW1.out]
  refine (H.out _).mono ?_
  rintro e w2 ⟨v, rfl, hg, ht⟩
  obtain ⟨p, rfl⟩ := tree_some ht HS.out
  have G : Hid (∀ o, W1.grownBy (w2.alloc o) none) := fun o => grown_trans hg (grown_alloc _ _)
  have T : Hid (∀ o, TreeAt (fun k => W1.heap.size ≤ k) (w2.alloc o) (.pointer (some ⟨p, 0, none⟩)) tr) := fun o => ht.idleA (grown_alloc _ _)
  have x0 := fun o => (BX.out _ (G.out o)).1
  have x1 := fun o => (BX.out _ (G.out o)).2
  clear hg ht
  go_wp2_with fail
  refine (HL.out _ (grown_trans G1.out (G.out _))).mono ?_
  rintro e w3 ⟨rfl, hg3⟩
  have G3 : Hid (W1.grownBy w3 none) := grown_trans (G.out _) hg3
  have T3 : Hid (TreeAt (fun k => W1.heap.size ≤ k) w3 (.pointer (some ⟨p, 0, none⟩)) tr) := (T.out _).idleA hg3
  obtain ⟨y0, y1⟩ := BX.out _ G3.out
  clear hg3 x0 x1
  go_wp2_with fail
  refine (HN.out _ (grown_trans G1.out G3.out)).mono ?_
  rintro e w4 ⟨g, cap, rfl, hc4, hg4⟩
  have G4 : Hid (w.grownBy w4 none) := grown_trans (grown_trans G1.out G3.out) hg4
  have T4 : Hid (TreeAt (fun k => W1.heap.size ≤ k) w4 (.pointer (some ⟨p, 0, none⟩)) tr) := T3.out.idleA hg4
  have C4 : Hid (∀ k, k < hs.length + ls.length → w4.cell? ⟨g, k, none⟩ = some (.int .i64 ((hs ++ ls).getD k 0))) := hc4
  clear hg4 hc4 y0 y1
  go_wp2_with fail
  refine (HA.out _ _ _ g cap T4.out C4.out).mono ?_
  rintro e w5 ⟨ga, rfl, hr5, hg5⟩
  have z0 := hr5.cell (i := 0) (by omega)
  have G5 : Hid (w.grownBy w5 none) := grown_trans G4.out hg5
  clear hr5 hg5
  go_wp2_with fail
  go_ret2
  exact ⟨rfl, G5.out⟩

end Go.Proofs.Ytneialmpaiejcaa
