/- What the empty word does, what a letter does behind it. -/
/- What turns and what stays; a set of rows of five, and steps, in memory. -/
/- monoid.seek: what holds while it goes. -/
/- Words in the order in which they are come to: the steps of whoever goes through them. -/
/- monoid.seek: what it answers, how it begins. -/
/- monoid.seek, of one who looks and wants nothing. -/
/- Words that are come to: each goes on from an earlier one. -/
import Derived.Test.YtmbbkjpfmmnabaaDoorTls
import Derived.Test.YtmbbkjpfmmnabaaDoorLMath
import Derived.Test.YtmbbkjpfmmnabaaDoorHMem
import Derived.Test.YtmbbkjpfmmnabaaDoorDRead
import Derived.RegionTactic
import Derived.BigRegion
import Derived.Test.YtmbbkjpfmmnabaaDoorLOw
import Derived.Test.YtmbbkjpfmmnabaaDoorLOfs
import Derived.WideKeyPair
import Derived.DeepKeys4
import Derived.Test.YtmbbkjpfmmnabaaDoorHBk
import Derived.Deep.RegionWith
import Derived.Deep.RegionLaw
import Derived.Deep.DeepCutAuto
import Derived.Deep.CutRange
namespace Go.Proofs.YtmbbkjpfmmnabaaDoor
open Go.RowKit
set_option linter.unusedVariables false

abbrev rowV (c : Nat) : Value := .agg #[.int .i64 ((dg c 0 : Nat) : Int), .int .i64 ((dg c 1 : Nat) : Int), .int .i64 ((dg c 2 : Nat) : Int), .int .i64 ((dg c 3 : Nat) : Int), .int .i64 ((dg c 4 : Nat) : Int)]

theorem block_cells5 {W : World} {B : Nat} {T : TypeId} {a0 a1 a2 a3 a4 : Value} (hb : W.heap[B]? = some (.cells #[a0, a1, a2, a3, a4] T (0, 0))) :
    W.cell? ⟨B, 0, none⟩ = some a0 ∧ W.cell? ⟨B, 1, none⟩ = some a1 ∧ W.cell? ⟨B, 2, none⟩ = some a2 ∧ W.cell? ⟨B, 3, none⟩ = some a3 ∧ W.cell? ⟨B, 4, none⟩ = some a4 ∧ ∀ k, W.frozen? ⟨B, k, none⟩ = false :=
  ⟨by rw [cell_of_row _ _ _ _ _ (0, 0) hb]; rfl, by rw [cell_of_row _ _ _ _ _ (0, 0) hb]; rfl, by rw [cell_of_row _ _ _ _ _ (0, 0) hb]; rfl, by rw [cell_of_row _ _ _ _ _ (0, 0) hb]; rfl, by rw [cell_of_row _ _ _ _ _ (0, 0) hb]; rfl, fun k => frozen_of_row W B k _ _ hb⟩
theorem store5 {W : World} {B : Nat} {T : TypeId} {a0 a1 a2 a3 a4 : Value} (hb : W.heap[B]? = some (.cells #[a0, a1, a2, a3, a4] T (0, 0))) (v0 v1 v2 v3 v4 : Value) :
    ∃ W', W' = ((((W.setCell ⟨B, 0, none⟩ v0).setCell ⟨B, 1, none⟩ v1).setCell ⟨B, 2, none⟩ v2).setCell ⟨B, 3, none⟩ v3).setCell ⟨B, 4, none⟩ v4 ∧ W.grownBy W' (some B) ∧
      W'.heap[B]? = some (.cells #[v0, v1, v2, v3, v4] T (0, 0)) := by
  have h0 : (W.setCell ⟨B, 0, none⟩ v0).heap[B]? = some (.cells #[v0, a1, a2, a3, a4] T (0, 0)) := by rw [heap_setCell_same W B 0 _ _ _ hb]; rfl
  have h1 := heap_setCell_same _ B 1 _ _ v1 h0
  have h2 := heap_setCell_same _ B 2 _ _ v2 h1
  have h3 := heap_setCell_same _ B 3 _ _ v3 h2
  have h4 := heap_setCell_same _ B 4 _ _ v4 h3
  exact ⟨_, rfl, grown_set2 (grown_set2 (grown_set2 (grown_set2 (grown_set W ⟨B, 0, none⟩ v0) 1 v1) 2 v2) 3 v3) 4 v4, h4⟩
theorem zero5 (w : World) (T : TypeId) : ∃ W, W = w.alloc (.cells #[.int .i64 0, .int .i64 0, .int .i64 0, .int .i64 0, .int .i64 0] T) ∧ w.grownBy W none ∧ W.heap.size = w.heap.size + 1 ∧ ∀ W', W.grownBy W' none → W'.heap[w.heap.size]? = some (.cells #[.int .i64 0, .int .i64 0, .int .i64 0, .int .i64 0, .int .i64 0] T (0, 0)) :=
  ⟨_, rfl, grown_alloc _ _, by simp, fun W' h => (h.block _ (by simp) (by simp)).trans (heap_alloc_new w _)⟩
/-- Numbers of five, some of them there already. -/
def mixL (k : Nat) (f g : Nat → Nat) : List Nat := (List.range 5).map fun s => if s < k then f s else g s
theorem mixL_get {k s : Nat} {f g : Nat → Nat} (h : s < 5) : (mixL k f g).getD s 0 = if s < k then f s else g s := by simp [mixL, List.getD, h]
theorem mixL_len (k : Nat) (f g : Nat → Nat) : (mixL k f g).length = 5 := by simp [mixL]
theorem mixL_set {k : Nat} {f g : Nat → Nat} (h : k < 5) : (mixL k f g).set k (f k) = mixL (k + 1) f g := by
  apply List.ext_getElem (by simp [mixL])
  intro i h1 h2
  have hi : i < 5 := by simpa [mixL] using h2
  rw [List.getElem_set]
  simp only [mixL, List.getElem_map, List.getElem_range]
  by_cases e : k = i
  · subst e; simp
  · rw [if_neg e]
    by_cases h3 : i < k
    · rw [if_pos h3, if_pos (by omega)]
    · rw [if_neg h3, if_neg (by omega)]
theorem natInts_set (xs : List Nat) (i x : Nat) : (natInts xs).set i ((x : Nat) : Int) = natInts (xs.set i x) := by simp [natInts, List.map_set]
theorem mixL_five (k : Nat) (f g : Nat → Nat) : vals (natInts (mixL k f g)) = [.int .i64 ((if 0 < k then f 0 else g 0 : Nat) : Int), .int .i64 ((if 1 < k then f 1 else g 1 : Nat) : Int), .int .i64 ((if 2 < k then f 2 else g 2 : Nat) : Int), .int .i64 ((if 3 < k then f 3 else g 3 : Nat) : Int), .int .i64 ((if 4 < k then f 4 else g 4 : Nat) : Int)] := rfl
/-- A box of five numbers. -/
abbrev boxI (b : Nat) (xs : List Nat) : Item := (86, .slice (some ⟨b, 0, none⟩) 5 5, vals (natInts xs))

set_option maxHeartbeats 1600000 in
set_option maxRecDepth 100000 in
theorem idle_any (w : World) : Calls Tryd.prog 75 #[] w (Says (rowV idle0) w) := by
  obtain ⟨W1, hW1, g1, s1, k1⟩ := zero5 w 86
  have HW1 : Hid (W1 = _) := hW1
  have G1 : Hid (w.grownBy W1 none) := g1
  have HS1 : Hid (W1.heap.size = w.heap.size + 1) := s1
  have HZ1 : Hid (∀ W', W1.grownBy W' none → W'.heap[w.heap.size]? = some (.cells #[.int .i64 0, .int .i64 0, .int .i64 0, .int .i64 0, .int .i64 0] 86 (0, 0))) := k1
  obtain ⟨W2, hW2⟩ : ∃ W2, W2 = W1.alloc (.cells #[.int .i64 0, .int .i64 0, .int .i64 0, .int .i64 0, .int .i64 0] 86) := ⟨_, rfl⟩
  have HW2 : Hid (W2 = (w.alloc (.cells #[.int .i64 0, .int .i64 0, .int .i64 0, .int .i64 0, .int .i64 0] 86)).alloc (.cells #[.int .i64 0, .int .i64 0, .int .i64 0, .int .i64 0, .int .i64 0] 86)) := by show _ = _; rw [hW2, hW1]
  have O2 : Hid (Owns W1.heap.size W2 [boxI (w.heap.size + 1) (mixL 0 id fun _ => 0)]) := by
    have h := (Owns.no W1.heap.size W1).made (arr := #[.int .i64 0, .int .i64 0, .int .i64 0, .int .i64 0, .int .i64 0]) (n := 5) (Nat.le_refl _) 86 rfl (by unfold maxLen; omega)
    rw [← hW2, s1] at h
    rw [s1]
    exact h
  have G2 : Hid (W1.grownBy W2 none) := by show World.grownBy _ _ _; rw [hW2]; exact grown_alloc _ _
  clear hW1 g1 s1 k1 hW2
  go_enter Tryd.func75, Tryd.ntmps75
  go_wp2_with fail
  rw [← HW2.out]
  go_loopw [3] (fun v wr => ∃ k : Nat, v = .int .i64 k ∧ k ≤ 5 ∧ Owns W1.heap.size wr [boxI (w.heap.size + 1) (mixL k id fun _ => 0)] ∧ W1.grownBy wr none) (fun v _ => 5 - (intOf v).toNat)
  case atStart => exact ⟨0, rfl, by omega, O2.out, G2.out⟩
  case round =>
    clear O2 G2
    obtain ⟨k, rfl, hk, ho, hg⟩ := hrel
    by_cases hlt : k < 5
    · have hki : (k : Int) < 5 := by omega
      have x1 := ho.cell (natInts_get (i := k) (by rw [mixL_len]; exact hlt))
      have f1 := ho.fz k
      have h2 := ho.set hlt (.int .i64 ((k : Nat) : Int))
      rw [vals_set, natInts_set] at h2
      have em := mixL_set (f := id) (g := fun _ => 0) hlt
      simp only [id] at em
      rw [em] at h2
      have O3 : Hid _ := h2
      have G3 : Hid (W1.grownBy (wr.setCell ⟨w.heap.size + 1, k, none⟩ (.int .i64 ((k : Nat) : Int))) none) := grown_new hg (grown_set _ _ _) (Nat.le_of_eq HS1.out)
      clear ho hg h2
      generalize (mixL k id fun _ => 0).getD k 0 = old at x1
      go_wp2_with fail
      go_roundw
      case rel => exact ⟨k + 1, by go_num, by omega, O3.out, G3.out⟩
      case measure => simp [intOf]; omega
    · have hki : ¬ (k : Int) < 5 := by omega
      have hke : k = 5 := by omega
      subst hke
      rw [boxI, mixL_five] at ho
      simp only [Nat.reduceLT, if_true, id] at ho
      have c0 := ho.cell (i := 0) rfl
      have c1 := ho.cell (i := 1) rfl
      have c2 := ho.cell (i := 2) rfl
      have c3 := ho.cell (i := 3) rfl
      have c4 := ho.cell (i := 4) rfl
      obtain ⟨z0, z1, z2, z3, z4, zf⟩ := block_cells5 (HZ1.out wr hg)
      have y0 := zf 0
      have y1 := zf 1
      have y2 := zf 2
      have y3 := zf 3
      have y4 := zf 4
      obtain ⟨W9, hW9, hg9, hk9⟩ := store5 (HZ1.out wr hg) (.int .i64 0) (.int .i64 1) (.int .i64 2) (.int .i64 3) (.int .i64 4)
      obtain ⟨q0, q1, q2, q3, q4, _⟩ := block_cells5 hk9
      have G9 : Hid (w.grownBy W9 none) := grown_new (grown_trans G1.out hg) hg9 (by omega)
      clear ho hg hg9 hk9 zf
      go_wp2_with fail
      rw [← hW9]
      exact bodyPost_ret (v := .agg #[.int .i64 0, .int .i64 1, .int .i64 2, .int .i64 3, .int .i64 4]) (by simp [results, Tryd.results75, go_sem, q0, q1, q2, q3, q4]) rfl ⟨rfl, G9.out⟩

set_option maxHeartbeats 1600000 in
set_option maxRecDepth 100000 in
theorem then_any (S : Int) (l : Nat) (R : List (List Int)) (M : List Int) (a a' : Option Addr) (cc cc' c x : Nat) (w : World) (h : DetAt w ⟨l, S, R, M⟩ a a') (hG : Good ⟨l, S, R, M⟩) (hn : R.length ≤ 5) (hx : x < l) (hc : ∀ s, s < R.length → dg c s < R.length) :
    Calls Tryd.prog 77 #[rowV c, detV l S a R.length cc a' M.length cc', .int .i64 (x : Nat)] w (Says (rowV (thenK (Dfa.nx ⟨l, S, R, M⟩) R.length c x)) w) := by
  have hl4 : l ≤ 4 := by have := hG.l4; simp only at this; omega
  have hn1 : 1 ≤ R.length := hG.n1
  obtain ⟨ba, oa, rfl, _⟩ := h.rows.at (k := 0) (by simp only; omega)
  obtain ⟨δ, hδ⟩ : ∃ δ, Dfa.nx ⟨l, S, R, M⟩ = δ := ⟨_, rfl⟩
  have HR : Hid (∀ W p, w.grownBy W none → p < R.length → ∃ bx ox cx, W.cell? ⟨ba, oa + p, none⟩ = some (.slice (some ⟨bx, ox, none⟩) l cx) ∧ W.cell? ⟨bx, ox + x, none⟩ = some (.int .i64 ((δ p x : Nat) : Int))) := fun W p hW hp => by
    obtain ⟨b, off, bx, ox, cx, ha, h1, h2⟩ := step_reads (l := x) (h.grown hW) hG hp (by omega)
    cases ha
    simp only [Int.toNat_natCast] at h1
    rw [hδ] at h2
    exact ⟨bx, ox, cx, h1, h2⟩
  have hlt5 : ∀ s, s < R.length → δ (dg c s) x < R.length := fun s hs => by rw [← hδ]; exact hG.nx_lt (hc s hs) (by simp; exact hx)
  have hf : ∀ s, s < 5 → (if s < R.length then δ (dg c s) x else dg c s) < 5 := fun s hs => by
    split
    · next h1 => have := hlt5 s h1; omega
    · exact dg_lt _ _
  have e : ∀ s, s < 5 → dg (thenK δ R.length c x) s = if s < R.length then δ (dg c s) x else dg c s := fun s hs => dg_mkc hf hs
  rw [hδ]
  have HE : Hid (vals (natInts (mixL R.length (fun s => δ (dg c s) x) (dg c))) = [.int .i64 ((dg (thenK δ R.length c x) 0 : Nat) : Int), .int .i64 ((dg (thenK δ R.length c x) 1 : Nat) : Int), .int .i64 ((dg (thenK δ R.length c x) 2 : Nat) : Int), .int .i64 ((dg (thenK δ R.length c x) 3 : Nat) : Int), .int .i64 ((dg (thenK δ R.length c x) 4 : Nat) : Int)]) := by
    show _ = _
    rw [mixL_five, e 0 (by omega), e 1 (by omega), e 2 (by omega), e 3 (by omega), e 4 (by omega)]
  have HL5 : Hid (∀ s, s < R.length → dg c s < R.length) := hc
  generalize thenK δ R.length c x = cn at *
  obtain ⟨n, hn0⟩ : ∃ n, R.length = n := ⟨_, rfl⟩
  obtain ⟨mn, hmn⟩ : ∃ mn, M.length = mn := ⟨_, rfl⟩
  rw [hn0] at HR HE HL5 hn1 hn hlt5 ⊢
  rw [hmn]
  obtain ⟨W1, hW1⟩ : ∃ W1, W1 = w.alloc (.cells #[.int .i64 ((dg c 0 : Nat) : Int), .int .i64 ((dg c 1 : Nat) : Int), .int .i64 ((dg c 2 : Nat) : Int), .int .i64 ((dg c 3 : Nat) : Int), .int .i64 ((dg c 4 : Nat) : Int)] 86) := ⟨_, rfl⟩
  have hs1 : W1.heap.size = w.heap.size + 1 := by rw [hW1]; simp
  obtain ⟨W2, hW2, g2, s2, bx2⟩ := box_new W1 (.int .i64 l) (.int .i64 S) (.slice (some ⟨ba, oa, none⟩) n cc) (.slice a' mn cc') 25
  obtain ⟨W3, hW3, g3, s3, k3⟩ := zero5 W2 86
  rw [hs1] at bx2 s2
  rw [s2] at k3 s3
  have O1 : Owns w.heap.size W1 [boxI w.heap.size (mixL 0 (fun s => δ (dg c s) x) (dg c))] := by
    have h1 := (Owns.no w.heap.size w).made (arr := #[.int .i64 ((dg c 0 : Nat) : Int), .int .i64 ((dg c 1 : Nat) : Int), .int .i64 ((dg c 2 : Nat) : Int), .int .i64 ((dg c 3 : Nat) : Int), .int .i64 ((dg c 4 : Nat) : Int)]) (n := 5) (Nat.le_refl _) 86 rfl (by unfold maxLen; omega)
    rw [← hW1] at h1
    exact h1
  have O3 : Hid (Owns w.heap.size W3 [boxI w.heap.size (mixL 0 (fun s => δ (dg c s) x) (dg c))]) := O1.kept (grown_trans g2 g3)
  have G3 : Hid (w.grownBy W3 none) := grown_trans (by rw [hW1]; exact grown_alloc _ _) (grown_trans g2 g3)
  have HW3 : Hid (W3 = ((w.alloc (.cells #[.int .i64 ((dg c 0 : Nat) : Int), .int .i64 ((dg c 1 : Nat) : Int), .int .i64 ((dg c 2 : Nat) : Int), .int .i64 ((dg c 3 : Nat) : Int), .int .i64 ((dg c 4 : Nat) : Int)] 86)).alloc (.cells #[.int .i64 l, .int .i64 S, .slice (some ⟨ba, oa, none⟩) n cc, .slice a' mn cc'] 25)).alloc (.cells #[.int .i64 0, .int .i64 0, .int .i64 0, .int .i64 0, .int .i64 0] 86)) := by show _ = _; rw [hW3, hW2, hW1]
  have b2 : W3.cell? ⟨w.heap.size + 1, 2, none⟩ = some (.slice (some ⟨ba, oa, none⟩) n cc) := (bx2 W3 g3).2.2.1
  have z3 := k3 W3 (grown_refl _ _)
  have Fr : Hid (∀ W, W3.grownBy W (some w.heap.size) → w.grownBy W none ∧ W.cell? ⟨w.heap.size + 1, 2, none⟩ = some (.slice (some ⟨ba, oa, none⟩) n cc) ∧ W.heap[w.heap.size + 1 + 1]? = some (.cells #[.int .i64 0, .int .i64 0, .int .i64 0, .int .i64 0, .int .i64 0] 86 (0, 0))) := fun W hW =>
    ⟨grown_new G3.out hW (Nat.le_refl _), hW.cell b2 (by simp), (hW.block _ (by rw [s3]; omega) (by simp; omega)).trans z3⟩
  clear h hG hc hδ hf e hn0 hmn hW1 hs1 hW2 hW3 g2 g3 s2 s3 k3 bx2 O1 b2 z3
  go_enter Tryd.func77, Tryd.ntmps77
  go_wp2_with fail
  rw [← HW3.out]
  go_loopw [11] (fun v wr => ∃ k : Nat, v = .int .i64 k ∧ k ≤ n ∧ Owns w.heap.size wr [boxI w.heap.size (mixL k (fun s => δ (dg c s) x) (dg c))] ∧ W3.grownBy wr (some w.heap.size)) (fun v _ => n - (intOf v).toNat)
  case atStart => exact ⟨0, rfl, by omega, O3.out, grown_refl _ _⟩
  case round =>
    clear O3
    obtain ⟨k, rfl, hk, ho, hg⟩ := hrel
    obtain ⟨hgw, b2, hz⟩ := Fr.out wr hg
    by_cases hlt : k < n
    · have hki : (k : Int) < (n : Int) := by omega
      have hk5 : (k : Int) < 5 := by omega
      have x1 := ho.cell (natInts_get (i := k) (by rw [mixL_len]; omega))
      rw [mixL_get (by omega), if_neg (by omega)] at x1
      have f1 := ho.fz k
      have hdk := HL5.out k hlt
      obtain ⟨bx, ox, cx, r1, r2⟩ := HR.out wr (dg c k) hgw hdk
      have h2 := ho.set (i := k) (by omega) (.int .i64 ((δ (dg c k) x : Nat) : Int))
      rw [vals_set, natInts_set] at h2
      have em := mixL_set (k := k) (f := fun s => δ (dg c s) x) (g := dg c) (by omega)
      rw [em] at h2
      have O4 : Hid _ := h2
      have G4 : Hid (W3.grownBy (wr.setCell ⟨w.heap.size, k, none⟩ (.int .i64 ((δ (dg c k) x : Nat) : Int))) (some w.heap.size)) := grown_set2 hg _ _
      have hxi : (x : Int) < (l : Int) := by omega
      have hdi : (dg c k : Int) < (n : Int) := by omega
      clear ho hg h2 em hz hgw
      generalize δ (dg c k) x = y at *
      generalize dg c k = z at *
      go_wp2_with fail
      go_region
      all_goals
        go_wp2_with fail
        go_roundw
        case rel => exact ⟨k + 1, by go_num, by omega, Owns.kept O4.out (grown_drew (grown_refl _ _)), grown_drew G4.out⟩
        case measure => simp [intOf]; omega
    · have hki : ¬ (k : Int) < (n : Int) := by omega
      have hke : k = n := by omega
      subst hke
      rw [boxI, HE.out] at ho
      have c0 := ho.cell (i := 0) rfl
      have c1 := ho.cell (i := 1) rfl
      have c2 := ho.cell (i := 2) rfl
      have c3 := ho.cell (i := 3) rfl
      have c4 := ho.cell (i := 4) rfl
      obtain ⟨z0, z1, z2, z3, z4, zf⟩ := block_cells5 hz
      have y0 := zf 0
      have y1 := zf 1
      have y2 := zf 2
      have y3 := zf 3
      have y4 := zf 4
      obtain ⟨W9, hW9, hg9, hk9⟩ := store5 hz (.int .i64 ((dg cn 0 : Nat) : Int)) (.int .i64 ((dg cn 1 : Nat) : Int)) (.int .i64 ((dg cn 2 : Nat) : Int)) (.int .i64 ((dg cn 3 : Nat) : Int)) (.int .i64 ((dg cn 4 : Nat) : Int))
      obtain ⟨q0, q1, q2, q3, q4, _⟩ := block_cells5 hk9
      have G9 : Hid (w.grownBy W9 none) := grown_new hgw hg9 (by omega)
      clear ho hg hg9 hk9 zf hz hgw b2
      go_wp2_with fail
      rw [← hW9]
      exact bodyPost_ret (v := rowV cn) (by simp [results, Tryd.results77, go_sem, q0, q1, q2, q3, q4]) rfl ⟨rfl, G9.out⟩

end Go.Proofs.YtmbbkjpfmmnabaaDoor

namespace Go.Proofs.YtmbbkjpfmmnabaaDoor
open Go.RowKit Go.Maps
set_option linter.unusedVariables false

/-- A row of five as a key. -/
theorem Tryd.arr5 : WideMaps.ArrKey Tryd.prog 86 3 5 := ⟨Tryd.underlying86, by kernel_rfl, by kernel_rfl, by kernel_rfl⟩
theorem Tryd.row5 : (86 : TypeId) < Tryd.prog.types.size := of_decide_eq_true (by kernel_rfl)
theorem pred_of5 {n t : Nat} (h : t < n) : ∃ m, n = m + 1 := ⟨n - 1, by omega⟩
set_option maxRecDepth 100000 in
theorem Tryd.size5 : ∃ m, Tryd.prog.types.size = m + 1 := pred_of5 Tryd.row5
theorem Tryd.wide5 : (match Tryd.prog.underlying 86 with | some (.array _ _) | some (.struct _) => true | _ => false) = true := by rw [Tryd.underlying86]
set_option maxRecDepth 100000 in
theorem Tryd.keyed5 : Keyed Tryd.prog 86 := Keyed.of_law (deep_law_laid Tryd.laidOut (m := 2) (by omega) Tryd.row5 (by kernel_rfl) Tryd.wide5)
theorem keyOf_five {P : Program} {k e : TypeId} {q : IntKind} (A : WideMaps.ArrKey P k e 5) (he : P.underlying e = some (.int q)) (hsz : ∃ m, P.types.size = m + 1) {a b c d f : Int} (wa : (Lit.int q a).wf = true) (wb : (Lit.int q b).wf = true) (wc : (Lit.int q c).wf = true) (wd : (Lit.int q d).wf = true) (wf : (Lit.int q f).wf = true) :
    keyOf P k (.agg #[.int q a, .int q b, .int q c, .int q d, .int q f]) = some (.string (keyBytes [.int q a, .int q b, .int q c, .int q d, .int q f])) := by
  have hkt := A.keyType hsz
  obtain ⟨m, hm⟩ := hsz
  unfold keyOf
  simp only [A.hu]
  rw [if_pos (by simp [hkt, Value.formed, A.hu, A.size]), hm]
  unfold Program.keyLits
  simp only [A.hu, Value.cells]
  rw [if_pos (by rw [A.size]; rfl), show List.range 5 = [0, 1, 2, 3, 4] from rfl, List.mapM_cons, List.mapM_cons, List.mapM_cons, List.mapM_cons, List.mapM_cons, List.mapM_nil]
  simp [A.one, Program.keyLits, he, wa, wb, wc, wd, wf]
def klit (c : Nat) : Lit := .string (keyBytes [.int .i64 ((dg c 0 : Nat) : Int), .int .i64 ((dg c 1 : Nat) : Int), .int .i64 ((dg c 2 : Nat) : Int), .int .i64 ((dg c 3 : Nat) : Int), .int .i64 ((dg c 4 : Nat) : Int)])
theorem dg_wf (c s : Nat) : (Lit.int .i64 ((dg c s : Nat) : Int)).wf = true := wf64 (by have := dg_lt c s; omega)
theorem klit_key (c : Nat) : keyOf Tryd.prog 86 (rowV c) = some (klit c) := keyOf_five Tryd.arr5 Tryd.underlying3 Tryd.size5 (dg_wf _ _) (dg_wf _ _) (dg_wf _ _) (dg_wf _ _) (dg_wf _ _)
theorem klit_inj {c d : Nat} (hc : c < 3125) (hd : d < 3125) (e : klit c = klit d) : c = d := by
  have h1 := Tryd.keyed5.inj (klit_key c) (by rw [e]; exact klit_key d)
  simp only [Value.agg.injEq, Array.mk.injEq, List.cons.injEq, Value.int.injEq, true_and, and_true] at h1
  obtain ⟨e0, e1, e2, e3, e4⟩ := h1
  refine dg_inj hc hd fun s hs => ?_
  rcases five hs with rfl | rfl | rfl | rfl | rfl <;> omega
theorem klit_lit (c : Nat) : WideAt.IsKeyLit (klit c) := by simp [WideAt.IsKeyLit, klit]

/-- The map in block b has the rows xs. -/
def SetAt (w : World) (b : Nat) (xs : List Nat) : Prop :=
  ∃ D : DataW Unit, w.ownsMap Tryd.prog 86 unitElem b xs.length D ∧ ∀ y : Nat, y < 3125 → (Maps.has D (klit y) = true ↔ y ∈ xs)
theorem SetAt.block {w : World} {b : Nat} {xs : List Nat} (h : SetAt w b xs) : b < w.heap.size ∧ ∃ o, w.heap[b]? = some o ∧ ∀ c t f, o ≠ .cells c t f := by
  obtain ⟨D, ⟨es, clock, hb, _⟩, _⟩ := h
  exact ⟨(Array.getElem?_eq_some_iff.1 hb).1, _, hb, fun _ _ _ e => by cases e⟩
theorem SetAt.kept {w w' : World} {b : Nat} {xs : List Nat} {row : Option Nat} (h : SetAt w b xs) (hg : w.grownBy w' row) (hne : row ≠ some b) : SetAt w' b xs := by
  obtain ⟨D, h1, h2⟩ := h
  exact ⟨D, h1.kept hg (Ne.symm hne), h2⟩
theorem SetAt.turn {S : Nat → Prop} {w w' : World} {b : Nat} {xs : List Nat} (h : SetAt w b xs) (ht : Turn S w w') (hb : ¬ S b) : SetAt w' b xs := by
  obtain ⟨D, ⟨es, clock, h0, h1⟩, h2⟩ := h
  exact ⟨D, ⟨es, clock, (ht.block b (Array.getElem?_eq_some_iff.1 h0).1 hb).trans h0, h1⟩, h2⟩
theorem zeroU (w : World) : (zeroValue 141).run Tryd.prog w = .ok (.agg #[]) w := by kernel_rfl
theorem SetAt.look {w : World} {b : Nat} {xs : List Nat} (h : SetAt w b xs) {y : Nat} (hy : y < 3125) :
    (Instr.lookup 142 (.map (some b)) (rowV y) true).run Tryd.prog w = .ok (.tuple #[.agg #[], .bool (decide (y ∈ xs))]) w := by
  obtain ⟨D, h1, h2⟩ := h
  obtain ⟨v, ps, hrun, hv⟩ := h1.look_ok Tryd.keyed5 Tryd.underlying142 (zeroU w) unitElem_mk (klit_key y)
  obtain ⟨rfl, _⟩ := unitElem_inv hv
  rw [hrun]
  have e : Maps.has D (klit y) = decide (y ∈ xs) := by
    cases hb : Maps.has D (klit y) with
    | true => rw [decide_eq_true ((h2 y hy).1 hb)]
    | false => rw [decide_eq_false (fun e => by rw [(h2 y hy).2 e] at hb; cases hb)]
  rw [e]
theorem SetAt.put {w : World} {b : Nat} {xs : List Nat} (h : SetAt w b xs) {y : Nat} (hy : y < 3125) (hl : xs.length ≤ 4000) :
    ∃ w', (Instr.mapUpdate 142 (.map (some b)) (rowV y) (.agg #[])).run Tryd.prog w = .ok () w' ∧ SetAt w' b (xs ++ [y]) ∧ w.grownBy w' (some b) := by
  obtain ⟨D, h1, h2⟩ := h
  obtain ⟨w', hrun, h4, h5⟩ := h1.update Tryd.keyed5 Tryd.underlying142 (by unfold maxLen; omega) (klit_key y) unitElem_mk
  refine ⟨w', hrun, ⟨_, by simpa using h4, fun z hz => ?_⟩, h5⟩
  by_cases hzy : z = y
  · subst hzy
    rw [has_put_same h1.isMap (klit_lit z)]
    simp
  · rw [has_put_other (fun e => hzy (klit_inj hz hy e)), h2 z hz]
    simp [hzy]
theorem setAt_made (w : World) : SetAt (w.alloc (.map #[] 0)) w.heap.size [] :=
  ⟨.map [], World.ownsMap_made w _ _ _, fun y _ => by simp [Maps.has_eq]⟩

end Go.Proofs.YtmbbkjpfmmnabaaDoor

namespace Go.Proofs.YtmbbkjpfmmnabaaDoor
open Go.RowKit Go.Maps
set_option linter.unusedVariables false

/-- A step: what is done, behind which one, by which letter. -/
abbrev Stp := Nat × Int × Nat
def stpC (s : Stp) : List Value := [.int .i64 ((dg s.1 0 : Nat) : Int), .int .i64 ((dg s.1 1 : Nat) : Int), .int .i64 ((dg s.1 2 : Nat) : Int), .int .i64 ((dg s.1 3 : Nat) : Int), .int .i64 ((dg s.1 4 : Nat) : Int), .int .i64 s.2.1, .int .i64 ((s.2.2 : Nat) : Int)]
def scells (ss : List Stp) : List Value := ss.flatMap stpC
theorem scells_len (ss : List Stp) : (scells ss).length = ss.length * 7 := by
  unfold scells
  induction ss with
  | nil => rfl
  | cons x xs ih => rw [List.flatMap_cons, List.length_append, ih]; simp [stpC]; omega
theorem scells_snoc (ss : List Stp) (s : Stp) : scells (ss ++ [s]) = scells ss ++ stpC s := by unfold scells; rw [List.flatMap_append]; simp
theorem scells_get {i j : Nat} {s : Stp} : ∀ {ss : List Stp}, ss[i]? = some s → j < 7 → (scells ss)[i * 7 + j]? = (stpC s)[j]? := by
  induction i with
  | zero => intro ss h hj; cases ss with
    | nil => simp at h
    | cons x xs =>
      simp only [List.getElem?_cons_zero, Option.some.injEq] at h
      subst h
      unfold scells
      rw [List.flatMap_cons, Nat.zero_mul, Nat.zero_add, List.getElem?_append_left (by simp [stpC]; omega)]
  | succ i ih => intro ss h hj; cases ss with
    | nil => simp at h
    | cons x xs =>
      have h1 := ih (ss := xs) (by simpa using h) hj
      unfold scells at h1 ⊢
      rw [List.flatMap_cons, List.getElem?_append_right (by simp [stpC]; omega)]
      have e : (i + 1) * 7 + j - (stpC x).length = i * 7 + j := by simp [stpC]; omega
      rw [e, h1]
/-- How each word goes on from an earlier one. -/
def ParW (ws : List (List Nat)) (ss : List Stp) : Prop := ss.length = ws.length ∧ ∀ i, i < ws.length → ∃ s, ss[i]? = some s ∧ ((ws.getD i [] = [] ∧ s.2.1 = -1) ∨ ∃ p : Nat, p < i ∧ s.2.1 = (p : Int) ∧ ws.getD i [] = ws.getD p [] ++ [s.2.2])
theorem parW_start (c : Nat) : ParW [[]] [(c, -1, 0)] := ⟨rfl, fun i hi => by
  have : i = 0 := by simpa using hi
  subst this
  exact ⟨_, rfl, .inl ⟨rfl, rfl⟩⟩⟩
theorem ParW.snoc {ws : List (List Nat)} {ss : List Stp} (h : ParW ws ss) {p a c : Nat} (hp : p < ws.length) : ParW (ws ++ [ws.getD p [] ++ [a]]) (ss ++ [(c, (p : Int), a)]) := by
  obtain ⟨h1, h2⟩ := h
  refine ⟨by simp [h1], fun i hi => ?_⟩
  by_cases e : i < ws.length
  · obtain ⟨s, hs, h3⟩ := h2 i e
    refine ⟨s, by rw [List.getElem?_append_left (by omega)]; exact hs, ?_⟩
    rw [getDL_app _ e]
    rcases h3 with h3 | ⟨q, hq, e1, e2⟩
    · exact .inl h3
    · exact .inr ⟨q, hq, e1, by rw [getDL_app _ (by omega)]; exact e2⟩
  · have : i = ws.length := by simp at hi; omega
    subst this
    refine ⟨(c, (p : Int), a), by rw [← h1]; simp, .inr ⟨p, hp, rfl, ?_⟩⟩
    rw [getDL_app _ hp]
    simp [List.getD]

theorem Tryd.infoStp : (Tryd.prog.info? 139).map (fun i => (i.zero, i.size, i.bytes)) = some (some (.agg #[.int .i64 0, .int .i64 0, .int .i64 0, .int .i64 0, .int .i64 0, .int .i64 0, .int .i64 0]), 7, 56) := by kernel_rfl

/-- What holds while it goes: what the one who looks owns is J's business. -/
structure SkAt (w0 : World) (S0 : Nat → Prop) (J : List Nat → World → (Nat → Prop) → Prop) (seen : List Nat) (bd bm : Nat) (v0 v1 v2 v3 : Value) (aS : Option Addr) (cS : Nat) (ss : List Stp) (xs : List Nat) (w : World) : Prop where
  st : w.ownsRow w0.heap.size 139 7 (.slice aS ss.length cS) ss.length (scells ss)
  set : SetAt w bm xs
  box : w.heap[bd]? = some (.cells #[v0, v1, v2, v3] 25 (0, 0))
  ge : w0.heap.size ≤ bm ∧ w0.heap.size ≤ bd
  turn : Turn S0 w0 w
  ex : ∃ S, J seen w S ∧ (∀ b, S b → b < w.heap.size) ∧ (∀ b, S b → S0 b ∨ w0.heap.size ≤ b) ∧ (∀ b, S b → (Value.slice aS ss.length cS).ownBlock ≠ some b ∧ b ≠ bm ∧ b ≠ bd)
/-- J hangs on the blocks of S alone. -/
def Stable (w0 : World) (S0 : Nat → Prop) (J : List Nat → World → (Nat → Prop) → Prop) : Prop := ∀ seen W W' S, J seen W S → (∀ b, S b → W'.heap[b]? = W.heap[b]?) → Turn S0 w0 W' → J seen W' S
section
variable {w0 : World} {S0 : Nat → Prop} {J : List Nat → World → (Nat → Prop) → Prop} {seen : List Nat} {bd bm : Nat} {v0 v1 v2 v3 : Value} {aS : Option Addr} {cS : Nat} {ss : List Stp} {xs : List Nat} {w w' : World}
theorem SkAt.grow (h : SkAt w0 S0 J seen bd bm v0 v1 v2 v3 aS cS ss xs w) (hJ : Stable w0 S0 J) (hg : w.grownBy w' none) : SkAt w0 S0 J seen bd bm v0 v1 v2 v3 aS cS ss xs w' := by
  obtain ⟨S, h1, h2, h3, h4⟩ := h.ex
  exact ⟨h.st.kept hg (by cases (Value.slice aS ss.length cS).ownBlock <;> simp), h.set.kept hg (by simp), (hg.block _ (Array.getElem?_eq_some_iff.1 h.box).1 (by simp)).trans h.box, h.ge, h.turn.grow hg,
    ⟨S, hJ _ _ _ _ h1 (fun b hb => hg.block b (h2 b hb) (by simp)) (h.turn.grow hg), fun b hb => Nat.lt_of_lt_of_le (h2 b hb) hg.size, h3, h4⟩⟩
theorem SkAt.cells (h : SkAt w0 S0 J seen bd bm v0 v1 v2 v3 aS cS ss xs w) : w.cell? ⟨bd, 0, none⟩ = some v0 ∧ w.cell? ⟨bd, 1, none⟩ = some v1 ∧ w.cell? ⟨bd, 2, none⟩ = some v2 ∧ w.cell? ⟨bd, 3, none⟩ = some v3 := by
  obtain ⟨h1, h2, h3, h4, _⟩ := block_cells h.box
  exact ⟨h1, h2, h3, h4⟩
theorem SkAt.reads (h : SkAt w0 S0 J seen bd bm v0 v1 v2 v3 aS cS ss xs w) {i : Nat} {s : Stp} (hi : ss[i]? = some s) : ∃ g, aS = some ⟨g, 0, none⟩ ∧ ∀ j u, (stpC s)[j]? = some u → j < 7 → w.cell? ⟨g, i * 7 + j, none⟩ = some u := by
  have hs := h.st
  have hlt : i < ss.length := (List.getElem?_eq_some_iff.1 hi).1
  rcases hs.2 with ⟨_, e0⟩ | ⟨g, cap, cur, e1, _⟩
  · omega
  · simp only [Value.slice.injEq] at e1
    obtain ⟨rfl, _, rfl⟩ := e1
    refine ⟨g, rfl, fun j u hu hj => ?_⟩
    have c1 := hs.cells (g := g) rfl (i * 7 + j) u (by rw [scells_get hi hj]; exact hu)
    rwa [addr_add] at c1
/-- The one who looks has looked. -/
theorem SkAt.looked {c : Nat} (h : SkAt w0 S0 J seen bd bm v0 v1 v2 v3 aS cS ss xs w) {S S' : Nat → Prop} (h1 : J (seen ++ [c]) w' S') (ht : Turn S w w') (hs : ∀ b, S' b → S b ∨ w.heap.size ≤ b) (hl : ∀ b, S' b → b < w'.heap.size)
    (h3 : ∀ b, S b → S0 b ∨ w0.heap.size ≤ b) (h4 : ∀ b, S b → (Value.slice aS ss.length cS).ownBlock ≠ some b ∧ b ≠ bm ∧ b ≠ bd) : SkAt w0 S0 J (seen ++ [c]) bd bm v0 v1 v2 v3 aS cS ss xs w' := by
  have hlt : ∀ b, (Value.slice aS ss.length cS).ownBlock = some b → b < w.heap.size := fun b hb => (h.st.lt b hb).2
  have hbm := h.set.block.1
  have hbd := (Array.getElem?_eq_some_iff.1 h.box).1
  refine ⟨ownsRow_turn h.st ht (fun g hg hS => (h4 g hS).1 hg), h.set.turn ht (fun e => (h4 bm e).2.1 rfl), (ht.block _ hbd (fun e => (h4 bd e).2.2 rfl)).trans h.box, h.ge, h.turn.trans ht h3, ⟨S', h1, hl, fun b hb => ?_, fun b hb => ?_⟩⟩
  · rcases hs b hb with e | e
    · exact h3 b e
    · right; have := h.turn.size; omega
  · rcases hs b hb with e | e
    · exact h4 b e
    · exact ⟨fun hc => by have := hlt b hc; omega, by omega, by omega⟩
/-- A new row is known. -/
theorem SkAt.know {y : Nat} (h : SkAt w0 S0 J seen bd bm v0 v1 v2 v3 aS cS ss xs w) (hJ : Stable w0 S0 J) (hy : y < 3125) (hl : xs.length ≤ 4000) :
    ∃ w', (Instr.mapUpdate 142 (.map (some bm)) (rowV y) (.agg #[])).run Tryd.prog w = .ok () w' ∧ SkAt w0 S0 J seen bd bm v0 v1 v2 v3 aS cS ss (xs ++ [y]) w' ∧ w.grownBy w' (some bm) := by
  obtain ⟨w', hr, hs, hg⟩ := h.set.put hy hl
  obtain ⟨_, o, ho, hne⟩ := h.set.block
  have hbd : bd ≠ bm := fun e => by
    have h1 := h.box
    rw [e, ho] at h1
    exact hne _ _ _ (Option.some.inj h1)
  have hst : (Value.slice aS ss.length cS).ownBlock ≠ some bm := fun e => by
    rcases h.st.2 with ⟨e0, _⟩ | ⟨g, cap, cur, e1, _, hh, _⟩
    · rw [e0] at e; cases e
    · rw [e1] at e
      have : g = bm := by simpa [Value.ownBlock] using e
      subst this
      rw [hh] at ho
      exact hne _ _ _ (Option.some.inj ho).symm
  obtain ⟨S, h1, h2, h3, h4⟩ := h.ex
  have ht := h.turn.step hg (.inr h.ge.1)
  exact ⟨w', hr, ⟨h.st.kept hg (.inr hst), hs, (hg.block _ (Array.getElem?_eq_some_iff.1 h.box).1 (by simpa using hbd)).trans h.box, h.ge, ht,
    ⟨S, hJ _ _ _ _ h1 (fun b hb => hg.block b (h2 b hb) (by simpa using (h4 b hb).2.1)) ht, fun b hb => Nat.lt_of_lt_of_le (h2 b hb) hg.size, h3, h4⟩⟩, hg⟩
/-- A step is put behind. -/
theorem SkAt.push {H : Nat} (s : Stp) (h : SkAt w0 S0 J seen bd bm v0 v1 v2 v3 aS cS ss xs w) (hJ : Stable w0 S0 J) (hH : w.heap.size = H) (hl : ss.length ≤ 4000) :
    ∃ g cap w', (AppS #[140, 140] 140 #[.slice aS ss.length cS, .slice (some ⟨H, 0, none⟩) 1 1]).run Tryd.prog (w.alloc (.cells #[.int .i64 ((dg s.1 0 : Nat) : Int), .int .i64 ((dg s.1 1 : Nat) : Int), .int .i64 ((dg s.1 2 : Nat) : Int), .int .i64 ((dg s.1 3 : Nat) : Int), .int .i64 ((dg s.1 4 : Nat) : Int), .int .i64 s.2.1, .int .i64 ((s.2.2 : Nat) : Int)] 139)) = .ok (.slice (some ⟨g, 0, none⟩) (ss.length + 1) cap) w' ∧
      SkAt w0 S0 J seen bd bm v0 v1 v2 v3 (some ⟨g, 0, none⟩) cap (ss ++ [s]) xs w' := by
  subst hH
  have h' := h.grow hJ (grown_alloc w (.cells #[.int .i64 ((dg s.1 0 : Nat) : Int), .int .i64 ((dg s.1 1 : Nat) : Int), .int .i64 ((dg s.1 2 : Nat) : Int), .int .i64 ((dg s.1 3 : Nat) : Int), .int .i64 ((dg s.1 4 : Nat) : Int), .int .i64 s.2.1, .int .i64 ((s.2.2 : Nat) : Int)] 139))
  obtain ⟨i0, hio, hz0, hz1, hz2⟩ := info_parts Tryd.infoStp
  have hsz := h.turn.size
  obtain ⟨g', cap, w5, hrun, ho5, hg5, hat5, hlt5⟩ := run_append_lies (P := Tryd.prog) (w.alloc (.cells #[.int .i64 ((dg s.1 0 : Nat) : Int), .int .i64 ((dg s.1 1 : Nat) : Int), .int .i64 ((dg s.1 2 : Nat) : Int), .int .i64 ((dg s.1 3 : Nat) : Int), .int .i64 ((dg s.1 4 : Nat) : Int), .int .i64 s.2.1, .int .i64 ((s.2.2 : Nat) : Int)] 139)) 140 140 w0.heap.size 139 i0 _ 7 56 Tryd.underlying140 hio hz0 hz1 hz2 rfl (by decide) (.slice aS ss.length cS) ss.length (scells ss) h'.st ⟨w.heap.size, 0, none⟩ 1 1 (stpC s) rfl (World.news_of_block (heap_alloc_new _ _)) (by intro u hu; simp only [stpC, List.mem_cons, List.not_mem_nil, or_false] at hu; rcases hu with rfl | rfl | rfl | rfl | rfl | rfl | rfl <;> rfl) (by omega) (by unfold maxLen; omega) (by omega) (by rw [World.size_alloc]; omega) _ rfl
  obtain ⟨hbm, o, ho, hne⟩ := h'.set.block
  have hbd := (Array.getElem?_eq_some_iff.1 h'.box).1
  have hst : (Value.slice aS ss.length cS).ownBlock ≠ some bm := fun e => by
    rcases h'.st.2 with ⟨e0, _⟩ | ⟨g, cap, cur, e1, _, hh, _⟩
    · rw [e0] at e; cases e
    · rw [e1] at e
      have : g = bm := by simpa [Value.ownBlock] using e
      subst this
      rw [hh] at ho
      exact hne _ _ _ (Option.some.inj ho).symm
  have hsd : (Value.slice aS ss.length cS).ownBlock ≠ some bd := fun e => by
    rcases h'.st.2 with ⟨e0, _⟩ | ⟨g, cap, cur, e1, _, hh, _⟩
    · rw [e0] at e; cases e
    · rw [e1] at e
      have : g = bd := by simpa [Value.ownBlock] using e
      subst this
      have hb := h'.box
      rw [hh] at hb
      simp only [Option.some.injEq, Obj.cells.injEq] at hb
      exact absurd hb.2.1 (by decide)
  have ht : Turn S0 w0 w5 := by
    cases hv : (Value.slice aS ss.length cS).ownBlock with
    | none => rw [hv] at hg5; exact h'.turn.grow hg5
    | some g => rw [hv] at hg5; exact h'.turn.step hg5 (.inr (h'.st.lt g hv).1)
  obtain ⟨S, h1, h2, h3, h4⟩ := h'.ex
  refine ⟨g', cap, w5, hrun, ⟨?_, h'.set.kept hg5 hst, (hg5.block _ hbd (Ne.symm hsd)).trans h'.box, h.ge, ht, ⟨S, hJ _ _ _ _ h1 (fun b hb => hg5.block b (h2 b hb) (Ne.symm (h4 b hb).1)) ht, fun b hb => Nat.lt_of_lt_of_le (h2 b hb) hg5.size, h3, fun b hb => ?_⟩⟩⟩
  · rw [scells_snoc, List.length_append, List.length_singleton]
    exact ho5
  · refine ⟨?_, (h4 b hb).2⟩
    simp only [Value.ownBlock, ne_eq, Option.some.injEq]
    intro e
    subst e
    rcases hat5 with e | e
    · exact (h4 g' hb).1 e
    · have := h2 g' hb
      omega
end

end Go.Proofs.YtmbbkjpfmmnabaaDoor

namespace Go.Proofs.YtmbbkjpfmmnabaaDoor
open Go.RowKit
set_option linter.unusedVariables false

/-- All words ahead of the k-th are gone through. -/
structure OutB (κ : List Nat → Nat) (l : Nat) (v : Nat → Bool) (k : Nat) (ws : List (List Nat)) (ss : List Stp) : Prop where
  is : bfsW κ l k = ws
  le : k ≤ ws.length
  go : ∀ j, j < k → j < (bfsW κ l j).length
  no : ∀ j, j < k → v (κ (ws.getD j [])) = false
  par : ParW ws ss
  cod : ss.map (·.1) = ws.map κ
/-- .. and of the k-th those with a letter ahead of x behind. -/
structure InB (κ : List Nat → Nat) (l : Nat) (v : Nat → Bool) (k x : Nat) (u : List Nat) (ws : List (List Nat)) (ss : List Stp) : Prop where
  lt : k < (bfsW κ l k).length
  it : (bfsW κ l k).getD k [] = u
  is : rowW κ u x (bfsW κ l k) = ws
  go : ∀ j, j < k → j < (bfsW κ l j).length
  no : ∀ j, j < k + 1 → v (κ ((bfsW κ l k).getD j [])) = false
  par : ParW ws ss
  cod : ss.map (·.1) = ws.map κ
section
variable {κ : List Nat → Nat} {l k x : Nat} {v : Nat → Bool} {ws : List (List Nat)} {ss : List Stp} {u : List Nat}
theorem OutB.start (c : Nat) (hc : κ [] = c) : OutB κ l v 0 [[]] [(c, -1, 0)] := ⟨rfl, by simp, fun j hj => by omega, fun j hj => by omega, parW_start c, by simp [hc]⟩
theorem OutB.len (h : OutB κ l v k ws ss) : ss.length = ws.length := h.par.1
theorem OutB.at (h : OutB κ l v k ws ss) (hk : k < ws.length) : ∃ s, ss[k]? = some s ∧ s.1 = κ (ws.getD k []) := by
  obtain ⟨s, hs, _⟩ := h.par.2 k hk
  refine ⟨s, hs, ?_⟩
  have h1 : (ss.map (·.1))[k]? = (ws.map κ)[k]? := by rw [h.cod]
  rw [List.getElem?_map, List.getElem?_map, hs, List.getElem?_eq_getElem hk] at h1
  simp only [Option.map_some, Option.some.injEq] at h1
  rw [h1]; simp [List.getD, hk]
theorem OutB.row (h : OutB κ l v k ws ss) (hk : k < ws.length) (hv : v (κ (ws.getD k [])) = false) : InB κ l v k 0 (ws.getD k []) ws ss := by
  have e := h.is
  refine ⟨by rw [e]; exact hk, by rw [e], by rw [e]; rfl, h.go, fun j hj => ?_, h.par, h.cod⟩
  rw [e]
  by_cases e1 : j = k
  · subst e1; exact hv
  · exact h.no j (by omega)
theorem InB.pre (h : InB κ l v k x u ws ss) : ∃ zs, ws = bfsW κ l k ++ zs := by
  obtain ⟨zs, e⟩ := rowW_more (κ := κ) u x (bfsW κ l k)
  exact ⟨zs, by rw [← h.is]; exact e⟩
theorem InB.at (h : InB κ l v k x u ws ss) : k < ws.length ∧ ws.getD k [] = u ∧ ∃ s, ss[k]? = some s ∧ s.1 = κ u := by
  obtain ⟨zs, e⟩ := h.pre
  have hk : k < ws.length := by rw [e, List.length_append]; have := h.lt; omega
  have hu : ws.getD k [] = u := by rw [e, getDL_app _ h.lt]; exact h.it
  refine ⟨hk, hu, ?_⟩
  obtain ⟨s, hs, _⟩ := h.par.2 k hk
  refine ⟨s, hs, ?_⟩
  have h1 : (ss.map (·.1))[k]? = (ws.map κ)[k]? := by rw [h.cod]
  rw [List.getElem?_map, List.getElem?_map, hs, List.getElem?_eq_getElem hk] at h1
  simp only [Option.map_some, Option.some.injEq] at h1
  rw [h1, ← hu]; simp [List.getD, hk]
theorem InB.nodup (h : InB κ l v k x u ws ss) : (ws.map κ).Nodup := by rw [← h.is]; exact rowW_nodup (bfsW_nodup k) _ _
theorem InB.letters (h : InB κ l v k x u ws ss) (hx : x ≤ l) : (∀ y, y ∈ u → y < l) ∧ ∀ z, z ∈ ws → ∀ y, y ∈ z → y < l := by
  have h1 : ∀ y, y ∈ u → y < l := by rw [← h.it]; exact bfsW_letters k _ (getDL_mem h.lt)
  exact ⟨h1, by rw [← h.is]; exact rowW_letters (bfsW_letters k) h1 hx⟩
theorem InB.old (h : InB κ l v k x u ws ss) (hm : κ (u ++ [x]) ∈ ws.map κ) : InB κ l v k (x + 1) u ws ss := by
  refine ⟨h.lt, h.it, ?_, h.go, h.no, h.par, h.cod⟩
  simp only [rowW]
  rw [h.is]
  unfold addW
  rw [if_pos hm]
theorem InB.new (h : InB κ l v k x u ws ss) (hm : κ (u ++ [x]) ∉ ws.map κ) : InB κ l v k (x + 1) u (ws ++ [u ++ [x]]) (ss ++ [(κ (u ++ [x]), (k : Int), x)]) := by
  obtain ⟨hk, hu, _⟩ := h.at
  refine ⟨h.lt, h.it, ?_, h.go, h.no, ?_, by simp [h.cod]⟩
  · simp only [rowW]
    rw [h.is]
    unfold addW
    rw [if_neg hm]
  · have := h.par.snoc (a := x) (c := κ (u ++ [x])) hk
    rw [hu] at this
    exact this
theorem InB.done (h : InB κ l v k l u ws ss) : OutB κ l v (k + 1) ws ss := by
  obtain ⟨hk, _⟩ := h.at
  obtain ⟨zs, e⟩ := h.pre
  refine ⟨?_, hk, fun j hj => ?_, fun j hj => ?_, h.par, h.cod⟩
  · simp only [bfsW]
    rw [if_pos h.lt, h.it]
    exact h.is
  · by_cases e1 : j = k
    · subst e1; exact h.lt
    · exact h.go j (by omega)
  · rw [e, getDL_app _ (by have := h.lt; omega)]
    exact h.no j hj
theorem OutB.fin (h : OutB κ l v k ws ss) (hk : k = ws.length) : EndW κ l k := ⟨by rw [h.is]; exact hk.symm, h.go⟩
theorem OutB.nodup (h : OutB κ l v k ws ss) : (ws.map κ).Nodup := by rw [← h.is]; exact bfsW_nodup k
theorem OutB.letters (h : OutB κ l v k ws ss) : ∀ z, z ∈ ws → ∀ y, y ∈ z → y < l := by rw [← h.is]; exact bfsW_letters k
end

end Go.Proofs.YtmbbkjpfmmnabaaDoor

namespace Go.Proofs.YtmbbkjpfmmnabaaDoor
open Go.RowKit
set_option linter.unusedVariables false

/-- The one who looks answers. -/
def LookPost (J : List Nat → World → (Nat → Prop) → Prop) (seen : List Nat) (c : Nat) (S : Nat → Prop) (v : Nat → Bool) (W : World) (E : Ending) (W' : World) : Prop :=
  E = .returned (.bool (v c)) ∧ ∃ S', J (seen ++ [c]) W' S' ∧ Turn S W W' ∧ (∀ b, S' b → S b ∨ W.heap.size ≤ b) ∧ ∀ b, S' b → b < W'.heap.size
/-- No row is wanted. -/
def SeekNo (κ : List Nat → Nat) (l : Nat) (J : List Nat → World → (Nat → Prop) → Prop) (S0 : Nat → Prop) (v : Nat → Bool) (w : World) (E : Ending) (w' : World) : Prop :=
  E = .returned (.tuple #[.slice none 0 0, .bool false]) ∧ ∃ k, EndW κ l k ∧ (∀ u, u ∈ bfsW κ l k → v (κ u) = false) ∧ (∃ S, J ((bfsW κ l k).map κ) w' S ∧ (∀ b, S b → S0 b ∨ w.heap.size ≤ b) ∧ ∀ b, S b → b < w'.heap.size) ∧ Turn S0 w w'
/-- The i-th one is. -/
def SeekYes (κ : List Nat → Nat) (l : Nat) (J : List Nat → World → (Nat → Prop) → Prop) (S0 : Nat → Prop) (v : Nat → Bool) (w : World) (E : Ending) (w' : World) : Prop :=
  ∃ (i : Nat) (az : Option Addr) (cz : Nat), i < (bfsW κ l i).length ∧ (∀ j, j < i → j < (bfsW κ l j).length) ∧ (∀ j, j < i → v (κ ((bfsW κ l i).getD j [])) = false) ∧ v (κ ((bfsW κ l i).getD i [])) = true ∧
    E = .returned (.tuple #[.slice az ((bfsW κ l i).getD i []).length cz, .bool true]) ∧ Ints w' az (natInts ((bfsW κ l i).getD i [])) ∧ (∃ S, J (((bfsW κ l i).take (i + 1)).map κ) w' S ∧ (∀ b, S b → S0 b ∨ w.heap.size ≤ b) ∧ ∀ b, S b → b < w'.heap.size) ∧ Turn S0 w w'
def SeekPost (κ : List Nat → Nat) (l : Nat) (J : List Nat → World → (Nat → Prop) → Prop) (S0 : Nat → Prop) (v : Nat → Bool) (w : World) (E : Ending) (w' : World) : Prop := SeekNo κ l J S0 v w E w' ∨ SeekYes κ l J S0 v w E w'

/-- How it begins. -/
theorem sk_start {w0 : World} {S0 : Nat → Prop} {J : List Nat → World → (Nat → Prop) → Prop} {v0 v1 v2 v3 : Value} (hJ : Stable w0 S0 J) (h0 : J [] w0 S0) (hS0 : ∀ b, S0 b → b < w0.heap.size) {w2 : World} (hg2 : (w0.alloc (.cells #[v0, v1, v2, v3] 25)).grownBy w2 none) {c : Nat} (hc : c < 3125) {w5 : World}
    (hg5 : ((w2.alloc (.cells #[.int .i64 ((dg c 0 : Nat) : Int), .int .i64 ((dg c 1 : Nat) : Int), .int .i64 ((dg c 2 : Nat) : Int), .int .i64 ((dg c 3 : Nat) : Int), .int .i64 ((dg c 4 : Nat) : Int), .int .i64 (-1), .int .i64 0] 139)).alloc (.map #[] 0)).grownBy w5 none) :
    ∃ w6, (Instr.mapUpdate 142 (.map (some (w2.heap.size + 1))) (rowV c) (.agg #[])).run Tryd.prog w5 = .ok () w6 ∧ SkAt w0 S0 J [] w0.heap.size (w2.heap.size + 1) v0 v1 v2 v3 (some ⟨w2.heap.size, 0, none⟩) 1 [(c, -1, 0)] [c] w6 := by
  obtain ⟨W3, hW3⟩ : ∃ W3, W3 = w2.alloc (.cells #[.int .i64 ((dg c 0 : Nat) : Int), .int .i64 ((dg c 1 : Nat) : Int), .int .i64 ((dg c 2 : Nat) : Int), .int .i64 ((dg c 3 : Nat) : Int), .int .i64 ((dg c 4 : Nat) : Int), .int .i64 (-1), .int .i64 0] 139) := ⟨_, rfl⟩
  rw [← hW3] at hg5
  have s3 : W3.heap.size = w2.heap.size + 1 := by rw [hW3]; simp
  have g0 : w0.grownBy w2 none := grown_trans (grown_alloc _ _) hg2
  have gs2 : w0.heap.size + 1 ≤ w2.heap.size := by have := hg2.size; simpa using this
  have g3 : w2.grownBy W3 none := by rw [hW3]; exact grown_alloc _ _
  have hrow : W3.ownsRow w0.heap.size 139 7 (.slice (some ⟨w2.heap.size, 0, none⟩) 1 1) 1 (scells [(c, -1, 0)]) := by
    rw [hW3]
    exact ⟨by simp [scells, stpC], .inr ⟨w2.heap.size, 1, _, rfl, by omega, heap_alloc_new _ _, Nat.le_refl _, by unfold maxLen; omega, rfl, by simp [scells, stpC]⟩⟩
  have hset := setAt_made W3
  rw [s3] at hset
  have g5 : w2.grownBy w5 none := grown_trans g3 (grown_trans (grown_alloc _ _) hg5)
  have hbox : w5.heap[w0.heap.size]? = some (.cells #[v0, v1, v2, v3] 25 (0, 0)) := ((grown_trans hg2 g5).block _ (by simp) (by simp)).trans (heap_alloc_new _ _)
  have ht : Turn S0 w0 w5 := Turn.of (grown_trans g0 g5)
  have sk : SkAt w0 S0 J [] w0.heap.size (w2.heap.size + 1) v0 v1 v2 v3 (some ⟨w2.heap.size, 0, none⟩) 1 [(c, -1, 0)] [] w5 := by
    refine ⟨hrow.kept (grown_trans (grown_alloc _ _) hg5) (by simp [Value.ownBlock]), hset.kept hg5 (by simp), hbox, ⟨by omega, Nat.le_refl _⟩, ht, ⟨S0, hJ _ _ _ _ h0 (fun b hb => (grown_trans g0 g5).block b (hS0 b hb) (by simp)) ht, fun b hb => Nat.lt_of_lt_of_le (hS0 b hb) (grown_trans g0 g5).size, fun b hb => .inl hb, fun b hb => ?_⟩⟩
    have := hS0 b hb
    simp only [Value.ownBlock, ne_eq, Option.some.injEq]
    omega
  obtain ⟨w6, hr, hs, _⟩ := sk.know hJ hc (by simp)
  exact ⟨w6, hr, hs⟩

end Go.Proofs.YtmbbkjpfmmnabaaDoor

namespace Go.Proofs.YtmbbkjpfmmnabaaDoor
open Go.RowKit
set_option linter.unusedVariables false
attribute [local go_sem ↓] app_fold

/-- A row in a new box. -/
def BoxY (w : World) (y : Nat) (v : Value) (w' : World) : Prop := ∃ bx, v = .pointer (some ⟨bx, 0, none⟩) ∧ w'.heap[bx]? = some (.cells #[.int .i64 ((dg y 0 : Nat) : Int), .int .i64 ((dg y 1 : Nat) : Int), .int .i64 ((dg y 2 : Nat) : Int), .int .i64 ((dg y 3 : Nat) : Int), .int .i64 ((dg y 4 : Nat) : Int)] 86 (0, 0)) ∧ w.grownBy w' none

theorem boxY_a {w w8 : World} {y : Nat} (hg : w.drew.grownBy w8 none) : BoxY w y (.pointer (some ⟨w8.heap.size, 0, none⟩)) (w8.alloc (.cells #[.int .i64 ((dg y 0 : Nat) : Int), .int .i64 ((dg y 1 : Nat) : Int), .int .i64 ((dg y 2 : Nat) : Int), .int .i64 ((dg y 3 : Nat) : Int), .int .i64 ((dg y 4 : Nat) : Int)] 86)) :=
  ⟨_, rfl, heap_alloc_new _ _, grown_trans (grown_trans (grown_drew (grown_refl _ _)) hg) (grown_alloc _ _)⟩
theorem boxY_b {w w8 : World} {y b : Nat} (hk : w8.heap[b]? = some (.cells #[.int .i64 0, .int .i64 0, .int .i64 0, .int .i64 0, .int .i64 0] 86 (0, 0))) (hg : w.grownBy w8 none) (hb : w.heap.size ≤ b) : BoxY w y (.pointer (some ⟨b, 0, none⟩)) (((((w8.setCell ⟨b, 0, none⟩ (.int .i64 ((dg y 0 : Nat) : Int))).setCell ⟨b, 1, none⟩ (.int .i64 ((dg y 1 : Nat) : Int))).setCell ⟨b, 2, none⟩ (.int .i64 ((dg y 2 : Nat) : Int))).setCell ⟨b, 3, none⟩ (.int .i64 ((dg y 3 : Nat) : Int))).setCell ⟨b, 4, none⟩ (.int .i64 ((dg y 4 : Nat) : Int))) := by
  obtain ⟨W', rfl, h1, h2⟩ := store5 hk (.int .i64 ((dg y 0 : Nat) : Int)) (.int .i64 ((dg y 1 : Nat) : Int)) (.int .i64 ((dg y 2 : Nat) : Int)) (.int .i64 ((dg y 3 : Nat) : Int)) (.int .i64 ((dg y 4 : Nat) : Int))
  exact ⟨b, rfl, h2, grown_new hg h1 hb⟩
theorem SkAt.other {w0 : World} {S0 : Nat → Prop} {J : List Nat → World → (Nat → Prop) → Prop} {seen : List Nat} {bd bm : Nat} {v0 v1 v2 v3 : Value} {aS : Option Addr} {cS : Nat} {ss : List Stp} {xs : List Nat} {w : World} (h : SkAt w0 S0 J seen bd bm v0 v1 v2 v3 aS cS ss xs w) {b : Nat} {cs : Array Value} {T : TypeId} {fz : Nat × Nat} (hb : w.heap[b]? = some (.cells cs T fz)) : b ≠ bm := fun e => by
  obtain ⟨_, o, ho, hne⟩ := h.set.block
  rw [e, ho] at hb
  exact hne _ _ _ (Option.some.inj hb)

end Go.Proofs.YtmbbkjpfmmnabaaDoor

namespace Go.Proofs.YtmbbkjpfmmnabaaDoor
open Go.RowKit
set_option linter.unusedVariables false

/-- Each word that is come to goes on from an earlier one. -/
theorem parW_ex (κ : List Nat → Nat) (l k : Nat) : ∃ ss, ParW (bfsW κ l k) ss := by
  induction k with
  | zero => exact ⟨_, parW_start 0⟩
  | succ k ih =>
    obtain ⟨ss, hp⟩ := ih
    simp only [bfsW]
    split
    · next hlt =>
      have key : ∀ a, ∃ ss', ParW (rowW κ ((bfsW κ l k).getD k []) a (bfsW κ l k)) ss' := by
        intro a
        induction a with
        | zero => exact ⟨ss, hp⟩
        | succ a iha =>
          obtain ⟨ss', hp'⟩ := iha
          simp only [rowW, addW]
          split
          · exact ⟨ss', hp'⟩
          · obtain ⟨zs, e⟩ := rowW_more (κ := κ) ((bfsW κ l k).getD k []) a (bfsW κ l k)
            have h1 := hp'.snoc (p := k) (a := a) (c := 0) (by rw [e, List.length_append]; omega)
            rw [e, getDL_app _ hlt, ← e] at h1
            exact ⟨_, h1⟩
      exact key l
    · exact ⟨ss, hp⟩
/-- No word is longer than its place. -/
theorem parW_long {ws : List (List Nat)} {ss : List Stp} (h : ParW ws ss) : ∀ i, i < ws.length → (ws.getD i []).length ≤ i := by
  intro i
  induction i using Nat.strongRecOn with
  | ind i ih =>
    intro hi
    obtain ⟨s, _, h1⟩ := h.2 i hi
    rcases h1 with ⟨h1, _⟩ | ⟨p, hp, _, h1⟩
    · rw [h1]; simp
    · have := ih p hp (by omega)
      rw [h1, List.length_append, List.length_singleton]; omega
/-- None of them is long. -/
theorem bfs_short {δ : Nat → Nat → Nat} {n l i : Nat} (hn : n ≤ 5) (hδ : ∀ s a, s < n → a < l → δ s a < n) (hi : i < (bfsW (deed δ n) l i).length) : ((bfsW (deed δ n) l i).getD i []).length ≤ 4000 := by
  obtain ⟨ss, hp⟩ := parW_ex (deed δ n) l i
  have h1 := parW_long hp i hi
  have h2 := words_few (bfsW_nodup (κ := deed δ n) (l := l) i) (fun u hu => (deed_facts hn hδ u (bfsW_letters i u hu)).1)
  omega

end Go.Proofs.YtmbbkjpfmmnabaaDoor
