/- How many times: the program's round and comesBack, the reference's Turns. -/
/- Who counts: monoid.Counts$1, monoid.Counts. -/
import Derived.Test.YtmbbkjpfmmnabaaDoorMSks
import Derived.Test.YtmbbkjpfmmnabaaDoorLMath
import Derived.Test.YtmbbkjpfmmnabaaDoorMWd
import Derived.Test.YtmbbkjpfmmnabaaDoorMDn
namespace Go.Proofs.YtmbbkjpfmmnabaaDoor
open Go.RowKit
set_option linter.unusedVariables false

/-- A row of five in a box. -/
theorem row_box (w : World) (c : Nat) : ∃ W, W = w.alloc (.cells #[.int .i64 ((dg c 0 : Nat) : Int), .int .i64 ((dg c 1 : Nat) : Int), .int .i64 ((dg c 2 : Nat) : Int), .int .i64 ((dg c 3 : Nat) : Int), .int .i64 ((dg c 4 : Nat) : Int)] 86) ∧ w.grownBy W none ∧ ∀ W', W.grownBy W' none → ∀ s, s < 5 → W'.cell? ⟨w.heap.size, s, none⟩ = some (.int .i64 ((dg c s : Nat) : Int)) :=
  ⟨_, rfl, grown_alloc _ _, fun W' h s hs => by
    obtain ⟨h0, h1, h2, h3, h4, _⟩ := block_cells5 ((h.block _ (by simp) (by simp)).trans (heap_alloc_new w _))
    rcases five hs with rfl | rfl | rfl | rfl | rfl <;> assumption⟩
/-- Where one is; how many there are. -/
def IsIt (c s k p : Nat) : Prop := itr c k s = p
def IsCb (c k b : Nat) : Prop := cbk c k = b
/-- Not yet. -/
def NotYet (c s k : Nat) : Prop := ∀ j, 1 ≤ j → j ≤ k → itr c j s ≠ s

set_option maxHeartbeats 1600000 in
set_option maxRecDepth 100000 in
theorem round_any (c s : Nat) (w : World) (hs : s < 5) : Calls Tryd.prog 78 #[rowV c, .int .i64 (s : Nat)] w (Says (.int .i64 ((rnd c s : Nat) : Int)) w) := by
  obtain ⟨W1, hW1, g1, hc1⟩ := row_box w c
  have HW1 : Hid (W1 = _) := hW1
  have G1 : Hid (w.grownBy W1 none) := g1
  have HC : Hid (∀ W', W1.grownBy W' none → ∀ s, s < 5 → W'.cell? ⟨w.heap.size, s, none⟩ = some (.int .i64 ((dg c s : Nat) : Int))) := hc1
  have HB : Hid (∀ j, itr c j s < 5) := fun j => itr_lt (n := 5) (fun t _ => dg_lt c t) hs j
  have HF : Hid (∀ k, k < 5 → itr c (k + 1) s = s → NotYet c s k → rnd c s = k + 1) := fun k hk h hn => rnd_first hk h hn
  have HN : Hid (NotYet c s 5 → rnd c s = 0) := fun h => rnd_none h
  have HI : Hid (∀ k, itr c (k + 1) s = dg c (itr c k s)) := fun k => rfl
  obtain ⟨r, hr⟩ : ∃ r, rnd c s = r := ⟨_, rfl⟩
  rw [hr] at HF HN ⊢
  clear hW1 g1 hc1 hr
  go_enter Tryd.func78, Tryd.ntmps78
  go_wp2_with fail
  rw [← HW1.out]
  go_loopw [5, 8] (fun v5 v8 wr => ∃ k p : Nat, v5 = .int .i64 p ∧ v8 = .int .i64 k ∧ k ≤ 5 ∧ IsIt c s k p ∧ NotYet c s k ∧ W1.grownBy wr none) (fun _ v _ => 5 - (intOf v).toNat)
  case atStart => exact ⟨0, s, rfl, rfl, by omega, rfl, fun j h1 h2 => by omega, grown_refl _ _⟩
  case round =>
    obtain ⟨k, p, rfl, rfl, hk, hp, hn, hg⟩ := hrel
    have HP : Hid (IsIt c s k p) := hp
    have HY : Hid (NotYet c s k) := hn
    have G : Hid (W1.grownBy wr none) := hg
    have hp5 : p < 5 := by rw [← show itr c k s = p from hp]; exact HB.out k
    by_cases hlt : k < 5
    · have hki : (k : Int) < 5 := by omega
      have hpi : (p : Int) < 5 := by omega
      have x1 := HC.out wr hg p hp5
      have HP2 : Hid (IsIt c s (k + 1) (dg c p)) := by show itr c (k + 1) s = dg c p; rw [HI.out, show itr c k s = p from HP.out]
      clear hp hn hg
      generalize dg c p = p' at *
      by_cases he : p' = s
      · have HR : Hid (r = k + 1) := HF.out k hlt (by rw [show itr c (k + 1) s = p' from HP2.out, he]) HY.out
        have hei : ((p' : Nat) : Int) = (s : Int) := by omega
        have f1 : ((p' : Int) == (s : Int)) = true := by simpa using hei
        have GF : Hid (w.grownBy wr none) := grown_trans G1.out G.out
        clear he HP2
        go_wp2_with fail
        go_ret
        exact ⟨by rw [HR.out]; go_num, GF.out⟩
      · have f1 : ((p' : Int) == (s : Int)) = false := by simp; omega
        have HY2 : Hid (NotYet c s (k + 1)) := fun j h1 h2 => by
          by_cases e : j = k + 1
          · subst e; rw [show itr c (k + 1) s = p' from HP2.out]; exact he
          · exact HY.out j h1 (by omega)
        clear he
        go_wp2_with fail
        go_roundw
        case rel => exact ⟨k + 1, p', rfl, by go_num, by omega, HP2.out, HY2.out, G.out⟩
        case measure => simp [intOf]; omega
    · have hki : ¬ (k : Int) < 5 := by omega
      have hke : k = 5 := by omega
      subst hke
      have HR : Hid (r = 0) := HN.out hn
      have GF : Hid (w.grownBy wr none) := grown_trans G1.out hg
      clear hp hn hg HP HY
      go_wp2_with fail
      go_ret
      exact ⟨by rw [HR.out]; rfl, GF.out⟩

set_option maxHeartbeats 1600000 in
set_option maxRecDepth 100000 in
theorem comesBack_any (c : Nat) (w : World) : Calls Tryd.prog 44 #[rowV c] w (Says (.int .i64 ((cbk c 5 : Nat) : Int)) w) := by
  obtain ⟨W1, hW1, g1, hc1⟩ := row_box w c
  have HW1 : Hid (W1 = _) := hW1
  have G1 : Hid (w.grownBy W1 none) := g1
  have HC : Hid (∀ W', W1.grownBy W' none → ∀ s, s < 5 → W'.cell? ⟨w.heap.size, s, none⟩ = some (.int .i64 ((dg c s : Nat) : Int))) := hc1
  have HR : Hid (∀ W s, s < 5 → Calls Tryd.prog 78 #[rowV c, .int .i64 (s : Nat)] W (Says (.int .i64 ((rnd c s : Nat) : Int)) W)) := fun W s hs => round_any c s W hs
  have HB : Hid (∀ k, cbk c (k + 1) = bst (cbk c k) (rnd c k)) := cbk_step c
  have HL : Hid (∀ k, cbk c k ≤ 5) := cbk_le c
  have HL2 : Hid (∀ k, rnd c k ≤ 5) := rnd_le c
  clear hW1 g1 hc1
  go_enter Tryd.func44, Tryd.ntmps44
  go_wp2_with fail
  rw [← HW1.out]
  go_loopw [3, 6] (fun v3 v6 wr => ∃ k b : Nat, v3 = .int .i64 b ∧ v6 = .int .i64 k ∧ k ≤ 5 ∧ IsCb c k b ∧ W1.grownBy wr none) (fun _ v _ => 5 - (intOf v).toNat)
  case atStart => exact ⟨0, 0, rfl, rfl, by omega, rfl, grown_refl _ _⟩
  case round =>
    obtain ⟨k, b, rfl, rfl, hk, hb, hg⟩ := hrel
    have HBk : Hid (IsCb c k b) := hb
    have G : Hid (W1.grownBy wr none) := hg
    by_cases hlt : k < 5
    · have hki : (k : Int) < 5 := by omega
      have x0 := HC.out wr hg 0 (by omega)
      have x1 := HC.out wr hg 1 (by omega)
      have x2 := HC.out wr hg 2 (by omega)
      have x3 := HC.out wr hg 3 (by omega)
      have x4 := HC.out wr hg 4 (by omega)
      clear hb hg
      go_wp2_with fail
      refine (HR.out _ k hlt).mono ?_
      rintro E w3 ⟨rfl, hg3⟩
      have G3 : Hid (W1.grownBy w3 none) := grown_trans G.out hg3
      have HB2 : Hid (cbk c (k + 1) = bst b (rnd c k)) := by show _ = _; rw [HB.out, show cbk c k = b from HBk.out]
      have hr5 := HL2.out k
      have hb5 : b ≤ 5 := by rw [← show cbk c k = b from HBk.out]; exact HL.out k
      clear hg3 x0 x1 x2 x3 x4
      generalize rnd c k = r at *
      by_cases h1 : 1 < r
      · have h1i : (1 : Int) < (r : Int) := by omega
        by_cases h2 : b = 0
        · subst h2
          have HB3 : Hid (IsCb c (k + 1) r) := by show cbk c (k + 1) = r; rw [HB2.out]; unfold bst; rw [if_pos ⟨h1, .inl rfl⟩]
          clear HB2 HBk
          go_wp2_with fail
          go_roundw
          case rel => exact ⟨k + 1, r, rfl, by go_num, by omega, HB3.out, G3.out⟩
          case measure => simp [intOf]; omega
        · have h2i : ((b : Int) == 0) = false := by simp; omega
          by_cases h3 : r < b
          · have h3i : (r : Int) < (b : Int) := by omega
            have HB3 : Hid (IsCb c (k + 1) r) := by show cbk c (k + 1) = r; rw [HB2.out]; unfold bst; rw [if_pos ⟨h1, .inr h3⟩]
            clear HB2 HBk
            go_wp2_with fail
            go_roundw
            case rel => exact ⟨k + 1, r, rfl, by go_num, by omega, HB3.out, G3.out⟩
            case measure => simp [intOf]; omega
          · have h3i : ¬ (r : Int) < (b : Int) := by omega
            have HB3 : Hid (IsCb c (k + 1) b) := by show cbk c (k + 1) = b; rw [HB2.out]; unfold bst; rw [if_neg (by omega)]
            clear HB2 HBk
            go_wp2_with fail
            go_roundw
            case rel => exact ⟨k + 1, b, rfl, by go_num, by omega, HB3.out, G3.out⟩
            case measure => simp [intOf]; omega
      · have h1i : ¬ (1 : Int) < (r : Int) := by omega
        have HB3 : Hid (IsCb c (k + 1) b) := by show cbk c (k + 1) = b; rw [HB2.out]; unfold bst; rw [if_neg (by omega)]
        clear HB2 HBk
        go_wp2_with fail
        go_roundw
        case rel => exact ⟨k + 1, b, rfl, by go_num, by omega, HB3.out, G3.out⟩
        case measure => simp [intOf]; omega
    · have hki : ¬ (k : Int) < 5 := by omega
      have hke : k = 5 := by omega
      subst hke
      have HE : Hid (cbk c 5 = b) := hb
      have GF : Hid (w.grownBy wr none) := grown_trans G1.out hg
      clear hb hg HBk
      go_wp2_with fail
      go_ret
      exact ⟨by rw [HE.out]; rfl, GF.out⟩

end Go.Proofs.YtmbbkjpfmmnabaaDoor

namespace Go.Proofs.YtmbbkjpfmmnabaaDoor
open Go.RowKit
set_option linter.unusedVariables false

/-- How often the last row that was seen counts. -/
def lastT (seen : List Nat) : Nat := match seen.getLast? with | some c => cbk c 5 | none => 0
theorem lastT_snoc (seen : List Nat) (c : Nat) : lastT (seen ++ [c]) = cbk c 5 := by unfold lastT; simp
/-- It lies in the box b. -/
def Tms (b : Nat) (seen : List Nat) (W : World) (S : Nat → Prop) : Prop := W.heap[b]? = some (.cells #[.int .i64 ((lastT seen : Nat) : Int)] 3 (0, 0)) ∧ S = fun x => x = b
theorem tms_stable (b : Nat) (w0 : World) (S0 : Nat → Prop) : Stable w0 S0 (Tms b) := by
  rintro seen W W' S ⟨h1, rfl⟩ hb _
  exact ⟨(hb b rfl).trans h1, rfl⟩
/-- Whether a row counts. -/
def cts (c : Nat) : Bool := decide (0 < cbk c 5)

set_option maxHeartbeats 1600000 in
set_option maxRecDepth 100000 in
theorem lookC_any (b c : Nat) (seen : List Nat) (W : World) (S : Nat → Prop) (hJ : Tms b seen W S) :
    Calls Tryd.prog 43 #[rowV c, .pointer (some ⟨b, 0, none⟩)] W (LookPost (Tms b) seen c S cts W) := by
  obtain ⟨hb, rfl⟩ := hJ
  have hbl : b < W.heap.size := (Array.getElem?_eq_some_iff.1 hb).1
  have HB : Hid (∀ W', W.grownBy W' none → W'.heap[b]? = some (.cells #[.int .i64 ((lastT seen : Nat) : Int)] 3 (0, 0))) := fun W' hW => (hW.block b hbl (by simp)).trans hb
  have HC : Hid (∀ W', Calls Tryd.prog 44 #[rowV c] W' (Says (.int .i64 ((cbk c 5 : Nat) : Int)) W')) := fun W' => comesBack_any c W'
  have HG : Hid (∀ o, W.grownBy (W.alloc o) none) := fun o => grown_alloc _ _
  have HL : Hid (lastT (seen ++ [c]) = cbk c 5) := lastT_snoc seen c
  have HV : Hid (cts c = decide (0 < cbk c 5)) := rfl
  have hle := cbk_le c 5
  clear hb
  go_enter Tryd.func43, Tryd.ntmps43
  go_wp2_with fail
  refine (HC.out _).mono ?_
  rintro E w3 ⟨rfl, hg3⟩
  have hb3 := HB.out w3 (grown_trans (HG.out _) hg3)
  have x1 : w3.cell? ⟨b, 0, none⟩ = some (.int .i64 ((lastT seen : Nat) : Int)) := by rw [cell_of_row _ _ _ _ _ (0, 0) hb3]; rfl
  have f1 := frozen_of_row w3 b 0 _ _ hb3
  have hk : (w3.setCell ⟨b, 0, none⟩ (.int .i64 ((cbk c 5 : Nat) : Int))).heap[b]? = some (.cells #[.int .i64 ((cbk c 5 : Nat) : Int)] 3 (0, 0)) := by rw [heap_setCell_same w3 b 0 _ _ _ hb3]; rfl
  have Fin : Hid (LookPost (Tms b) seen c (fun x => x = b) cts W (.returned (.bool (cts c))) (w3.setCell ⟨b, 0, none⟩ (.int .i64 ((cbk c 5 : Nat) : Int)))) := by
    have ht : Turn (fun x => x = b) W w3 := Turn.of (grown_trans (HG.out _) hg3)
    refine ⟨rfl, fun x => x = b, ⟨by rw [HL.out]; exact hk, rfl⟩, ht.step (grown_set _ _ _) (.inl rfl), fun x hx => .inl hx, fun x hx => ?_⟩
    have := ht.size
    rw [size_set, show x = b from hx]
    omega
  rw [HV.out] at Fin
  clear hg3 hb3 hk
  generalize cbk c 5 = t at *
  by_cases h0 : 0 < t
  · have h0i : (0 : Int) < (t : Int) := by omega
    rw [decide_eq_true h0] at Fin
    go_wp2_with fail
    go_ret
    exact ⟨by rw [HV.out, decide_eq_true h0]; rfl, Fin.out.2⟩
  · have h0e : t = 0 := by omega
    subst h0e
    rw [decide_eq_false h0] at Fin
    go_wp2_with fail
    go_ret
    exact ⟨by rw [HV.out, decide_eq_false h0]; rfl, Fin.out.2⟩

theorem lastT_none {xs : List Nat} (h : ∀ c, c ∈ xs → cts c = false) : lastT xs = 0 := by
  unfold lastT
  cases hx : xs.getLast? with
  | none => rfl
  | some c =>
    have := h c (List.mem_of_getLast? hx)
    unfold cts at this
    simp only [decide_eq_false_iff_not] at this
    simp only
    omega
/-- The first word that counts, and how often; or none. -/
def CountPost (κ : List Nat → Nat) (l : Nat) (w : World) (E : Ending) (w' : World) : Prop :=
  w.grownBy w' none ∧ ((E = .returned (.tuple #[.slice none 0 0, .int .i64 0, .bool false, .int .i64 0]) ∧ ∃ k, EndW κ l k ∧ ∀ u, u ∈ bfsW κ l k → cts (κ u) = false) ∨
    ∃ (i : Nat) (az : Option Addr) (cz : Nat), i < (bfsW κ l i).length ∧ (∀ j, j < i → j < (bfsW κ l j).length) ∧ (∀ j, j < i → cts (κ ((bfsW κ l i).getD j [])) = false) ∧ cts (κ ((bfsW κ l i).getD i [])) = true ∧
      E = .returned (.tuple #[.slice az ((bfsW κ l i).getD i []).length cz, .int .i64 ((cbk (κ ((bfsW κ l i).getD i [])) 5 : Nat) : Int), .bool true, .int .i64 0]) ∧ Ints w' az (natInts ((bfsW κ l i).getD i [])))

set_option maxHeartbeats 1600000 in
set_option maxRecDepth 100000 in
theorem count_bad (L S y : Int) (a a' : Option Addr) (n m c c' : Nat) (w : World) (hy : y ≠ 0)
    (HL : Hid (∀ W, w.grownBy W none → Calls Tryd.prog 41 #[detV L S a n c a' m c'] W (LeastBPost y W))) :
    Calls Tryd.prog 19 #[detV L S a n c a' m c'] w (Says (.tuple #[.slice none 0 0, .int .i64 0, .bool false, .int .i64 y]) w) := by
  have f1 : (y != 0) = true := by simpa using hy
  obtain ⟨W1, hW1⟩ : ∃ W1, W1 = (w.alloc (.cells #[.int .i64 L, .int .i64 S, .slice a n c, .slice a' m c'] 25)).alloc (.cells #[.int .i64 0] 3) := ⟨_, rfl⟩
  have HW1 : Hid (W1 = _) := hW1
  have G1 : Hid (w.grownBy W1 none) := by show World.grownBy _ _ _; rw [hW1]; exact grown_trans (grown_alloc _ _) (grown_alloc _ _)
  have HS1 : Hid (W1.heap.size = w.heap.size + 1 + 1) := by show _ = _; rw [hW1]; simp
  have K1 : Hid (∀ W, W1.grownBy W none → W.heap[w.heap.size + 1]? = some (.cells #[.int .i64 0] 3 (0, 0))) := fun W hW => by
    have h1 := heap_alloc_new (w.alloc (.cells #[.int .i64 L, .int .i64 S, .slice a n c, .slice a' m c'] 25)) (.cells #[.int .i64 0] 3)
    rw [World.size_alloc, ← hW1] at h1
    exact (hW.block _ (by rw [HS1.out]; omega) (by simp)).trans h1
  clear hW1
  clear hy
  go_enter Tryd.func19, Tryd.ntmps19
  go_wp2_with fail
  rw [← HW1.out]
  refine (HL.out _ G1.out).mono ?_
  rintro E w2 ⟨rfl, hg2⟩
  obtain ⟨W3, hW3⟩ : ∃ W3, W3 = w2.alloc (.cells #[.int .i64 0, .int .i64 0, .slice none 0 0, .slice none 0 0] 25) := ⟨_, rfl⟩
  have g3 : W1.grownBy W3 none := by rw [hW3]; exact grown_trans hg2 (grown_alloc _ _)
  have hk3 := K1.out W3 g3
  have x1 : W3.cell? ⟨w.heap.size + 1, 0, none⟩ = some (.int .i64 0) := by rw [cell_of_row _ _ _ _ _ (0, 0) hk3]; rfl
  have f3 := frozen_of_row W3 (w.heap.size + 1) 0 _ _ hk3
  have hk4 : (W3.setCell ⟨w.heap.size + 1, 0, none⟩ (.int .i64 0)).heap[w.heap.size + 1]? = some (.cells #[.int .i64 0] 3 (0, 0)) := by rw [heap_setCell_same W3 _ 0 _ _ _ hk3]; rfl
  have q1 : (W3.setCell ⟨w.heap.size + 1, 0, none⟩ (.int .i64 0)).cell? ⟨w.heap.size + 1, 0, none⟩ = some (.int .i64 0) := by rw [cell_of_row _ _ _ _ _ (0, 0) hk4]; rfl
  have GE : Hid (w.grownBy (W3.setCell ⟨w.heap.size + 1, 0, none⟩ (.int .i64 0)) none) := grown_new (grown_trans G1.out g3) (grown_set _ _ _) (by show w.heap.size ≤ w.heap.size + 1; omega)
  rw [hW3] at x1 f3 q1 GE
  clear hg2 hW3 g3 hk3 hk4
  go_wp2_with fail
  exact bodyPost_ret (v := .tuple #[.slice none 0 0, .int .i64 0, .bool false, .int .i64 y]) (by simp [results, Tryd.results19, go_sem, q1]) rfl ⟨rfl, GE.out⟩

set_option maxHeartbeats 1600000 in
set_option maxRecDepth 100000 in
theorem count_ok (L S : Int) (l : Nat) (a a' : Option Addr) (n m c c' : Nat) (w : World) (δ : Nat → Nat → Nat) (mk : Nat → Bool) (nn s0 : Nat) (RL : List (List Int)) (ML : List Int) (hG : Good ⟨l, 0, RL, ML⟩) (h5 : RL.length ≤ 5) (hU : ∀ R M, LeastOf δ mk nn l s0 R M → R = RL ∧ M = ML)
    (HL : Hid (∀ W, w.grownBy W none → Calls Tryd.prog 41 #[detV L S a n c a' m c'] W (LeastGPost δ mk nn l s0 W))) :
    Calls Tryd.prog 19 #[detV L S a n c a' m c'] w (CountPost (deed (Dfa.nx ⟨l, 0, RL, ML⟩) RL.length) l w) := by
  have hmf : ∀ (fn : Fn) (first cap : Array Value) (w : World), (Instr.makeFunc fn first cap).run Tryd.prog w = .ok (.func fn first cap) w := fun _ _ _ _ => rfl
  have HU : Hid (∀ R M, LeastOf δ mk nn l s0 R M → R = RL ∧ M = ML) := hU
  have GD : Hid (Good ⟨l, 0, RL, ML⟩) := hG
  obtain ⟨W1, hW1⟩ : ∃ W1, W1 = (w.alloc (.cells #[.int .i64 L, .int .i64 S, .slice a n c, .slice a' m c'] 25)).alloc (.cells #[.int .i64 0] 3) := ⟨_, rfl⟩
  have HW1 : Hid (W1 = _) := hW1
  have G1 : Hid (w.grownBy W1 none) := by show World.grownBy _ _ _; rw [hW1]; exact grown_trans (grown_alloc _ _) (grown_alloc _ _)
  have HS1 : Hid (W1.heap.size = w.heap.size + 1 + 1) := by show _ = _; rw [hW1]; simp
  have K1 : Hid (∀ W, W1.grownBy W none → W.heap[w.heap.size + 1]? = some (.cells #[.int .i64 0] 3 (0, 0))) := fun W hW => by
    have h1 := heap_alloc_new (w.alloc (.cells #[.int .i64 L, .int .i64 S, .slice a n c, .slice a' m c'] 25)) (.cells #[.int .i64 0] 3)
    rw [World.size_alloc, ← hW1] at h1
    exact (hW.block _ (by rw [HS1.out]; omega) (by simp)).trans h1
  clear hW1
  clear hU hG
  go_enter Tryd.func19, Tryd.ntmps19
  go_wp2_with fail
  rw [← HW1.out]
  refine (HL.out _ G1.out).mono ?_
  rintro E w2 ⟨v, rfl, aL, cL, aN, cN, rs, M9, hv, hlo, hrn, hml, hrl, ho, hg2⟩
  cases hv
  obtain ⟨e1, e2⟩ := HU.out _ _ hlo
  have hn1 : 1 ≤ RL.length := GD.out.n1
  have hl4 : l ≤ 4 := by have := GD.out.l4; simp only at this; omega
  have hmR : M9.length = RL.length := by rw [e2]; exact GD.out.ml
  have hrR : rs.length = RL.length := by rw [← e1, List.length_map]
  obtain ⟨W4, hW4, g4, s4, bx4⟩ := box_new w2 (.int .i64 l) (.int .i64 0) (.slice aL RL.length cL) (.slice aN RL.length cN) 25
  have hb4 := K1.out W4 (grown_trans hg2 g4)
  have hDet : ∀ W, Turn (fun x => x = w.heap.size + 1) W4 W → DetAt W ⟨l, 0, RL, ML⟩ aL aN := fun W ht => by
    have o4 := (ho.kept g4).turn ht (fun it hm g hg hS => by
      have h1 := (ho.lt hm hg).1
      rw [HS1.out] at h1
      have h2 : g = w.heap.size + 1 := hS
      omega)
    have h3 := det_of_owns (L := (l : Int)) (S := 0) (its := []) (by rw [List.append_nil]; exact o4) (fun x hx => by rw [hrl x hx]; unfold maxLen; omega) (by rw [hrR]; unfold maxLen; omega) (by rw [hmR]; unfold maxLen; omega)
    rw [e1, e2] at h3
    exact h3
  have HSk : Hid (Calls Tryd.prog 42 #[detV l 0 aL RL.length cL aN RL.length cN, .func (.func 43) #[] #[.pointer (some ⟨w.heap.size + 1, 0, none⟩)]] W4 (SeekPost (deed (Dfa.nx ⟨l, 0, RL, ML⟩) RL.length) l (Tms (w.heap.size + 1)) (fun x => x = w.heap.size + 1) cts W4)) := by
    have h1 := seekC_any 0 l RL ML aL aN cL cN (.pointer (some ⟨w.heap.size + 1, 0, none⟩)) W4 (fun x => x = w.heap.size + 1) (Tms (w.heap.size + 1)) cts GD.out h5 hDet (tms_stable _ _ _) ⟨hb4, rfl⟩ (fun b hb => by rw [show b = w.heap.size + 1 from hb]; exact (Array.getElem?_eq_some_iff.1 hb4).1)
      (fun seen cc W S' hJ hsl hS ht hc hd => lookC_any (w.heap.size + 1) cc seen W S' hJ)
    have e3 : ML.length = RL.length := GD.out.ml
    rw [e3] at h1
    exact h1
  have HW4 : Hid (W4 = _) := hW4
  have GW4 : Hid (w.grownBy W4 none) := grown_trans G1.out (grown_trans hg2 g4)
  rw [hrR, hmR]
  clear hlo hrn hml hrl ho hg2 e1 e2 hmR hrR hW4 g4 s4 bx4 hb4 hDet
  generalize deed (Dfa.nx ⟨l, 0, RL, ML⟩) RL.length = κ at *
  go_wp2_with fail
  rw [← HW4.out]
  refine HSk.out.mono ?_
  rintro E w5 (⟨rfl, k, hend, hno, ⟨S5, ⟨hb5, rfl⟩, hj3, hj2⟩, ht5⟩ | ⟨i, az, cz, hi, hgo, hno, hyes, rfl, hints, ⟨S5, ⟨hb5, rfl⟩, hj3, hj2⟩, ht5⟩)
  · have hl0 : lastT ((bfsW κ l k).map κ) = 0 := lastT_none (fun c hc => by obtain ⟨u, hu, rfl⟩ := List.mem_map.1 hc; exact hno u hu)
    rw [hl0] at hb5
    have gf : w.grownBy w5 none := ((Turn.of (S := fun b => w.heap.size ≤ b) GW4.out).trans ht5 (fun x hx => .inl (by show w.heap.size ≤ x; rw [show x = w.heap.size + 1 from hx]; omega))).grown (fun x hx => hx)
    have x1 : w5.cell? ⟨w.heap.size + 1, 0, none⟩ = some (.int .i64 0) := by rw [cell_of_row _ _ _ _ _ (0, 0) hb5]; rfl
    have f5 := frozen_of_row w5 (w.heap.size + 1) 0 _ _ hb5
    have hk6 : (w5.setCell ⟨w.heap.size + 1, 0, none⟩ (.int .i64 0)).heap[w.heap.size + 1]? = some (.cells #[.int .i64 0] 3 (0, 0)) := by rw [heap_setCell_same w5 _ 0 _ _ _ hb5]; rfl
    have q1 : (w5.setCell ⟨w.heap.size + 1, 0, none⟩ (.int .i64 0)).cell? ⟨w.heap.size + 1, 0, none⟩ = some (.int .i64 0) := by rw [cell_of_row _ _ _ _ _ (0, 0) hk6]; rfl
    have Fin : Hid (CountPost κ l w (.returned (.tuple #[.slice none 0 0, .int .i64 0, .bool false, .int .i64 0])) (w5.setCell ⟨w.heap.size + 1, 0, none⟩ (.int .i64 0)).drew) := ⟨grown_drew (grown_new gf (grown_set _ _ _) (by show w.heap.size ≤ w.heap.size + 1; omega)), .inl ⟨rfl, k, hend, hno⟩⟩
    clear ht5 hj3 hj2 hend hno hb5 hl0 gf hk6
    go_wp2_with fail
    go_region
    all_goals
      go_wp2_with fail
      exact bodyPost_ret (v := .tuple #[.slice none 0 0, .int .i64 0, .bool false, .int .i64 0]) (by simp [results, Tryd.results19, go_sem, q1]) rfl Fin.out
  · have hl0 : lastT (((bfsW κ l i).take (i + 1)).map κ) = cbk (κ ((bfsW κ l i).getD i [])) 5 := by
      have e3 : (bfsW κ l i)[i]? = some ((bfsW κ l i).getD i []) := by rw [List.getElem?_eq_getElem hi]; simp [List.getD, hi]
      rw [List.take_add_one, e3, List.map_append]
      exact lastT_snoc _ _
    rw [hl0] at hb5
    have gf : w.grownBy w5 none := ((Turn.of (S := fun b => w.heap.size ≤ b) GW4.out).trans ht5 (fun x hx => .inl (by show w.heap.size ≤ x; rw [show x = w.heap.size + 1 from hx]; omega))).grown (fun x hx => hx)
    have hl6 : w5.heap[w.heap.size + 1]? = some (.cells #[.int .i64 ((cbk (κ ((bfsW κ l i).getD i [])) 5 : Nat) : Int)] 3 (0, 0)) := hb5
    have Fin0 : ∀ W, w5.grownBy W (some (w.heap.size + 1)) → w.grownBy W none → Ints W az (natInts ((bfsW κ l i).getD i [])) → CountPost κ l w (.returned (.tuple #[.slice az ((bfsW κ l i).getD i []).length cz, .int .i64 ((cbk (κ ((bfsW κ l i).getD i [])) 5 : Nat) : Int), .bool true, .int .i64 0])) W := fun W _ hW hi' => ⟨hW, .inr ⟨i, az, cz, hi, hgo, hno, hyes, rfl, hi'⟩⟩
    generalize (bfsW κ l i).getD i [] = u at *
    generalize cbk (κ u) 5 = t at *
    have x1 : w5.cell? ⟨w.heap.size + 1, 0, none⟩ = some (.int .i64 ((t : Nat) : Int)) := by rw [cell_of_row _ _ _ _ _ (0, 0) hl6]; rfl
    have f5 := frozen_of_row w5 (w.heap.size + 1) 0 _ _ hl6
    have hk6 : (w5.setCell ⟨w.heap.size + 1, 0, none⟩ (.int .i64 ((t : Nat) : Int))).heap[w.heap.size + 1]? = some (.cells #[.int .i64 ((t : Nat) : Int)] 3 (0, 0)) := by rw [heap_setCell_same w5 _ 0 _ _ _ hl6]; rfl
    have q1 : (w5.setCell ⟨w.heap.size + 1, 0, none⟩ (.int .i64 ((t : Nat) : Int))).cell? ⟨w.heap.size + 1, 0, none⟩ = some (.int .i64 ((t : Nat) : Int)) := by rw [cell_of_row _ _ _ _ _ (0, 0) hk6]; rfl
    have hi6 : Ints (w5.setCell ⟨w.heap.size + 1, 0, none⟩ (.int .i64 ((t : Nat) : Int))).drew az (natInts u) := by
      rcases hints with h1 | ⟨b, off, ha, hc⟩
      · exact .inl h1
      · refine .inr ⟨b, off, ha, fun j hj => ?_⟩
        by_cases e : b = w.heap.size + 1
        · subst e
          have h2 := hc j hj
          rw [cell_of_row _ _ _ _ _ (0, 0) hl6] at h2
          have e4 : off + j = 0 := by
            rcases Nat.eq_zero_or_pos (off + j) with h3 | h3
            · exact h3
            · rw [show (#[Value.int IntKind.i64 ((t : Nat) : Int)])[off + j]? = none from by simp; omega] at h2
              cases h2
          have h3 : (w5.setCell ⟨w.heap.size + 1, 0, none⟩ (.int .i64 ((t : Nat) : Int))).cell? ⟨w.heap.size + 1, off + j, none⟩ = w5.cell? ⟨w.heap.size + 1, off + j, none⟩ := by rw [e4, q1, x1]
          exact h3.trans (hc j hj)
        · exact (grown_set w5 ⟨w.heap.size + 1, 0, none⟩ _).cell (hc j hj) (by simpa using e)
    have Fin : Hid (CountPost κ l w (.returned (.tuple #[.slice az u.length cz, .int .i64 ((t : Nat) : Int), .bool true, .int .i64 0])) (w5.setCell ⟨w.heap.size + 1, 0, none⟩ (.int .i64 ((t : Nat) : Int))).drew) := Fin0 _ (grown_drew (grown_set _ _ _)) (grown_drew (grown_new gf (grown_set _ _ _) (by show w.heap.size ≤ w.heap.size + 1; omega))) hi6
    clear ht5 hj3 hj2 hi hgo hno hyes hints hb5 hl0 hl6 gf hk6 Fin0 hi6
    generalize u.length = ul at *
    go_wp2_with fail
    go_region
    all_goals
      go_wp2_with fail
      exact bodyPost_ret (v := .tuple #[.slice az ul cz, .int .i64 ((t : Nat) : Int), .bool true, .int .i64 0]) (by simp [results, Tryd.results19, go_sem, q1]) rfl Fin.out

end Go.Proofs.YtmbbkjpfmmnabaaDoor
