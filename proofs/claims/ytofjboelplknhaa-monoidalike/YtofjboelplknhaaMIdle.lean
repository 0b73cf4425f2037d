/- What the empty word does, what a letter does behind it. -/
import Derived.Test.YtofjboelplknhaaSays
import Derived.Test.YtofjboelplknhaaMDeed
import Derived.Test.YtofjboelplknhaaHMem
import Derived.Test.YtofjboelplknhaaDRead
import Derived.RegionTactic
import Derived.BigRegion
namespace Go.Proofs.Ytofjboelplknhaa
open Go.RowKit
set_option linter.unusedVariables false

abbrev rowV (c : Nat) : Value := .agg #[.int .i64 ((dg c 0 : Nat) : Int), .int .i64 ((dg c 1 : Nat) : Int), .int .i64 ((dg c 2 : Nat) : Int), .int .i64 ((dg c 3 : Nat) : Int), .int .i64 ((dg c 4 : Nat) : Int)]

theorem block_cells5 {W : World} {B : Nat} {T : TypeId} {a0 a1 a2 a3 a4 : Value} (hb : W.heap[B]? = some (.cells #[a0, a1, a2, a3, a4] T (0, 0))) :
    W.cell? ⟨B, 0, none⟩ = some a0 ∧ W.cell? ⟨B, 1, none⟩ = some a1 ∧ W.cell? ⟨B, 2, none⟩ = some a2 ∧ W.cell? ⟨B, 3, none⟩ = some a3 ∧ W.cell? ⟨B, 4, none⟩ = some a4 ∧ ∀ k, W.frozen? ⟨B, k, none⟩ = false :=
  ⟨by rw [cell_of_row _ _ _ _ _ (0, 0) hb]; rfl, by rw [cell_of_row _ _ _ _ _ (0, 0) hb]; rfl, by rw [cell_of_row _ _ _ _ _ (0, 0) hb]; rfl, by rw [cell_of_row _ _ _ _ _ (0, 0) hb]; rfl, by rw [cell_of_row _ _ _ _ _ (0, 0) hb]; rfl, fun k => frozen_of_row W B k _ _ hb⟩
theorem store5 {W : World} {B : Nat} {T : TypeId} {a0 a1 a2 a3 a4 : Value} (hb : W.heap[B]? = some (.cells #[a0, a1, a2, a3, a4] T (0, 0))) (v0 v1 v2 v3 v4 : Value) :
    ∃ W', W' = ((((W.setCell ⟨B, 0, none⟩ v0).setCell ⟨B, 1, none⟩ v1).setCell ⟨B, 2, none⟩ v2).setCell ⟨B, 3, none⟩ v3).setCell ⟨B, 4, none⟩ v4 ∧ W.grownBy W' (some B) ∧
      W'.heap[B]? = some (.cells #[v0, v1, v2, v3, v4] T (0, 0)) := by
  have h0 : (W.setCell ⟨B, 0, none⟩ v0).heap[B]? = some (.cells #[v0, a1, a2, a3, a4] T (0, 0)) := by rw [heap_setCell_same W B 0 _ _ _ hb]; rfl
  have h1 := heap_setCell_same _ B 1 _ _ v1 h0
  have h2 := heap_setCell_same _ B 2 _ _ v2 h1
  have h3 := heap_setCell_same _ B 3 _ _ v3 h2
  have h4 := heap_setCell_same _ B 4 _ _ v4 h3
  exact ⟨_, rfl, grown_set2 (grown_set2 (grown_set2 (grown_set2 (grown_set W ⟨B, 0, none⟩ v0) 1 v1) 2 v2) 3 v3) 4 v4, h4⟩
theorem zero5 (w : World) (T : TypeId) : ∃ W, W = w.alloc (.cells #[.int .i64 0, .int .i64 0, .int .i64 0, .int .i64 0, .int .i64 0] T) ∧ w.grownBy W none ∧ W.heap.size = w.heap.size + 1 ∧ ∀ W', W.grownBy W' none → W'.heap[w.heap.size]? = some (.cells #[.int .i64 0, .int .i64 0, .int .i64 0, .int .i64 0, .int .i64 0] T (0, 0)) :=
  ⟨_, rfl, grown_alloc _ _, by simp, fun W' h => (h.block _ (by simp) (by simp)).trans (heap_alloc_new w _)⟩
/-- Numbers of five, some of them there already. -/
def mixL (k : Nat) (f g : Nat → Nat) : List Nat := (List.range 5).map fun s => if s < k then f s else g s
theorem mixL_get {k s : Nat} {f g : Nat → Nat} (h : s < 5) : (mixL k f g).getD s 0 = if s < k then f s else g s := by simp [mixL, List.getD, h]
theorem mixL_len (k : Nat) (f g : Nat → Nat) : (mixL k f g).length = 5 := by simp [mixL]
theorem mixL_set {k : Nat} {f g : Nat → Nat} (h : k < 5) : (mixL k f g).set k (f k) = mixL (k + 1) f g := by
  apply List.ext_getElem (by simp [mixL])
  intro i h1 h2
  have hi : i < 5 := by simpa [mixL] using h2
  rw [List.getElem_set]
  simp only [mixL, List.getElem_map, List.getElem_range]
  by_cases e : k = i
  · subst e; simp
  · rw [if_neg e]
    by_cases h3 : i < k
    · rw [if_pos h3, if_pos (by omega)]
    · rw [if_neg h3, if_neg (by omega)]
theorem natInts_set (xs : List Nat) (i x : Nat) : (natInts xs).set i ((x : Nat) : Int) = natInts (xs.set i x) := by simp [natInts, List.map_set]
theorem mixL_five (k : Nat) (f g : Nat → Nat) : vals (natInts (mixL k f g)) = [.int .i64 ((if 0 < k then f 0 else g 0 : Nat) : Int), .int .i64 ((if 1 < k then f 1 else g 1 : Nat) : Int), .int .i64 ((if 2 < k then f 2 else g 2 : Nat) : Int), .int .i64 ((if 3 < k then f 3 else g 3 : Nat) : Int), .int .i64 ((if 4 < k then f 4 else g 4 : Nat) : Int)] := rfl
/-- A box of five numbers. -/
abbrev boxI (b : Nat) (xs : List Nat) : Item := (83, .slice (some ⟨b, 0, none⟩) 5 5, vals (natInts xs))

set_option maxHeartbeats 1600000 in
set_option maxRecDepth 100000 in
theorem idle_any (w : World) : Calls Try.prog 76 #[] w (Says (rowV idle0) w) := by
  obtain ⟨W1, hW1, g1, s1, k1⟩ := zero5 w 83
  have HW1 : Hid (W1 = _) := hW1
  have G1 : Hid (w.grownBy W1 none) := g1
  have HS1 : Hid (W1.heap.size = w.heap.size + 1) := s1
  have HZ1 : Hid (∀ W', W1.grownBy W' none → W'.heap[w.heap.size]? = some (.cells #[.int .i64 0, .int .i64 0, .int .i64 0, .int .i64 0, .int .i64 0] 83 (0, 0))) := k1
  obtain ⟨W2, hW2⟩ : ∃ W2, W2 = W1.alloc (.cells #[.int .i64 0, .int .i64 0, .int .i64 0, .int .i64 0, .int .i64 0] 83) := ⟨_, rfl⟩
  have HW2 : Hid (W2 = (w.alloc (.cells #[.int .i64 0, .int .i64 0, .int .i64 0, .int .i64 0, .int .i64 0] 83)).alloc (.cells #[.int .i64 0, .int .i64 0, .int .i64 0, .int .i64 0, .int .i64 0] 83)) := by show _ = _; rw [hW2, hW1]
  have O2 : Hid (Owns W1.heap.size W2 [boxI (w.heap.size + 1) (mixL 0 id fun _ => 0)]) := by
    have h := (Owns.no W1.heap.size W1).made (arr := #[.int .i64 0, .int .i64 0, .int .i64 0, .int .i64 0, .int .i64 0]) (n := 5) (Nat.le_refl _) 83 rfl (by unfold maxLen; omega)
    rw [← hW2, s1] at h
    rw [s1]
    exact h
  have G2 : Hid (W1.grownBy W2 none) := by show World.grownBy _ _ _; rw [hW2]; exact grown_alloc _ _
  clear hW1 g1 s1 k1 hW2
  go_enter Try.func76, Try.ntmps76
  go_wp2_with fail
  rw [← HW2.out]
  go_loopw [3] (fun v wr => ∃ k : Nat, v = .int .i64 k ∧ k ≤ 5 ∧ Owns W1.heap.size wr [boxI (w.heap.size + 1) (mixL k id fun _ => 0)] ∧ W1.grownBy wr none) (fun v _ => 5 - (intOf v).toNat)
  case atStart => exact ⟨0, rfl, by omega, O2.out, G2.out⟩
  case round =>
    clear O2 G2
    obtain ⟨k, rfl, hk, ho, hg⟩ := hrel
    by_cases hlt : k < 5
    · have hki : (k : Int) < 5 := by omega
      have x1 := ho.cell (natInts_get (i := k) (by rw [mixL_len]; exact hlt))
      have f1 := ho.fz k
      have h2 := ho.set hlt (.int .i64 ((k : Nat) : Int))
      rw [vals_set, natInts_set] at h2
      have em := mixL_set (f := id) (g := fun _ => 0) hlt
      simp only [id] at em
      rw [em] at h2
      have O3 : Hid _ := h2
      have G3 : Hid (W1.grownBy (wr.setCell ⟨w.heap.size + 1, k, none⟩ (.int .i64 ((k : Nat) : Int))) none) := grown_new hg (grown_set _ _ _) (Nat.le_of_eq HS1.out)
      clear ho hg h2
      generalize (mixL k id fun _ => 0).getD k 0 = old at x1
      go_wp2_with fail
      go_roundw
      case rel => exact ⟨k + 1, by go_num, by omega, O3.out, G3.out⟩
      case measure => simp [intOf]; omega
    · have hki : ¬ (k : Int) < 5 := by omega
      have hke : k = 5 := by omega
      subst hke
      rw [boxI, mixL_five] at ho
      simp only [Nat.reduceLT, if_true, id] at ho
      have c0 := ho.cell (i := 0) rfl
      have c1 := ho.cell (i := 1) rfl
      have c2 := ho.cell (i := 2) rfl
      have c3 := ho.cell (i := 3) rfl
      have c4 := ho.cell (i := 4) rfl
      obtain ⟨z0, z1, z2, z3, z4, zf⟩ := block_cells5 (HZ1.out wr hg)
      have y0 := zf 0
      have y1 := zf 1
      have y2 := zf 2
      have y3 := zf 3
      have y4 := zf 4
      obtain ⟨W9, hW9, hg9, hk9⟩ := store5 (HZ1.out wr hg) (.int .i64 0) (.int .i64 1) (.int .i64 2) (.int .i64 3) (.int .i64 4)
      obtain ⟨q0, q1, q2, q3, q4, _⟩ := block_cells5 hk9
      have G9 : Hid (w.grownBy W9 none) := grown_new (grown_trans G1.out hg) hg9 (by omega)
      clear ho hg hg9 hk9 zf
      go_wp2_with fail
      rw [← hW9]
      exact bodyPost_ret (v := .agg #[.int .i64 0, .int .i64 1, .int .i64 2, .int .i64 3, .int .i64 4]) (by simp [results, Try.results76, go_sem, q0, q1, q2, q3, q4]) rfl ⟨rfl, G9.out⟩

set_option maxHeartbeats 1600000 in
set_option maxRecDepth 100000 in
theorem then_any (S : Int) (l : Nat) (R : List (List Int)) (M : List Int) (a a' : Option Addr) (cc cc' c x : Nat) (w : World) (h : DetAt w ⟨l, S, R, M⟩ a a') (hG : Good ⟨l, S, R, M⟩) (hn : R.length ≤ 5) (hx : x < l) (hc : ∀ s, s < R.length → dg c s < R.length) :
    Calls Try.prog 78 #[rowV c, detV l S a R.length cc a' M.length cc', .int .i64 (x : Nat)] w (Says (rowV (thenK (Dfa.nx ⟨l, S, R, M⟩) R.length c x)) w) := by
  have hl4 : l ≤ 4 := by have := hG.l4; simp only at this; omega
  have hn1 : 1 ≤ R.length := hG.n1
  obtain ⟨ba, oa, rfl, _⟩ := h.rows.at (k := 0) (by simp only; omega)
  obtain ⟨δ, hδ⟩ : ∃ δ, Dfa.nx ⟨l, S, R, M⟩ = δ := ⟨_, rfl⟩
  have HR : Hid (∀ W p, w.grownBy W none → p < R.length → ∃ bx ox cx, W.cell? ⟨ba, oa + p, none⟩ = some (.slice (some ⟨bx, ox, none⟩) l cx) ∧ W.cell? ⟨bx, ox + x, none⟩ = some (.int .i64 ((δ p x : Nat) : Int))) := fun W p hW hp => by
    obtain ⟨b, off, bx, ox, cx, ha, h1, h2⟩ := step_reads (l := x) (h.grown hW) hG hp (by omega)
    cases ha
    simp only [Int.toNat_natCast] at h1
    rw [hδ] at h2
    exact ⟨bx, ox, cx, h1, h2⟩
  have hlt5 : ∀ s, s < R.length → δ (dg c s) x < R.length := fun s hs => by rw [← hδ]; exact hG.nx_lt (hc s hs) (by simp; exact hx)
  have hf : ∀ s, s < 5 → (if s < R.length then δ (dg c s) x else dg c s) < 5 := fun s hs => by
    split
    · next h1 => have := hlt5 s h1; omega
    · exact dg_lt _ _
  have e : ∀ s, s < 5 → dg (thenK δ R.length c x) s = if s < R.length then δ (dg c s) x else dg c s := fun s hs => dg_mkc hf hs
  rw [hδ]
  have HE : Hid (vals (natInts (mixL R.length (fun s => δ (dg c s) x) (dg c))) = [.int .i64 ((dg (thenK δ R.length c x) 0 : Nat) : Int), .int .i64 ((dg (thenK δ R.length c x) 1 : Nat) : Int), .int .i64 ((dg (thenK δ R.length c x) 2 : Nat) : Int), .int .i64 ((dg (thenK δ R.length c x) 3 : Nat) : Int), .int .i64 ((dg (thenK δ R.length c x) 4 : Nat) : Int)]) := by
    show _ = _
    rw [mixL_five, e 0 (by omega), e 1 (by omega), e 2 (by omega), e 3 (by omega), e 4 (by omega)]
  have HL5 : Hid (∀ s, s < R.length → dg c s < R.length) := hc
  generalize thenK δ R.length c x = cn at *
  obtain ⟨n, hn0⟩ : ∃ n, R.length = n := ⟨_, rfl⟩
  obtain ⟨mn, hmn⟩ : ∃ mn, M.length = mn := ⟨_, rfl⟩
  rw [hn0] at HR HE HL5 hn1 hn hlt5 ⊢
  rw [hmn]
  obtain ⟨W1, hW1⟩ : ∃ W1, W1 = w.alloc (.cells #[.int .i64 ((dg c 0 : Nat) : Int), .int .i64 ((dg c 1 : Nat) : Int), .int .i64 ((dg c 2 : Nat) : Int), .int .i64 ((dg c 3 : Nat) : Int), .int .i64 ((dg c 4 : Nat) : Int)] 83) := ⟨_, rfl⟩
  have hs1 : W1.heap.size = w.heap.size + 1 := by rw [hW1]; simp
  obtain ⟨W2, hW2, g2, s2, bx2⟩ := box_new W1 (.int .i64 l) (.int .i64 S) (.slice (some ⟨ba, oa, none⟩) n cc) (.slice a' mn cc') 25
  obtain ⟨W3, hW3, g3, s3, k3⟩ := zero5 W2 83
  rw [hs1] at bx2 s2
  rw [s2] at k3 s3
  have O1 : Owns w.heap.size W1 [boxI w.heap.size (mixL 0 (fun s => δ (dg c s) x) (dg c))] := by
    have h1 := (Owns.no w.heap.size w).made (arr := #[.int .i64 ((dg c 0 : Nat) : Int), .int .i64 ((dg c 1 : Nat) : Int), .int .i64 ((dg c 2 : Nat) : Int), .int .i64 ((dg c 3 : Nat) : Int), .int .i64 ((dg c 4 : Nat) : Int)]) (n := 5) (Nat.le_refl _) 83 rfl (by unfold maxLen; omega)
    rw [← hW1] at h1
    exact h1
  have O3 : Hid (Owns w.heap.size W3 [boxI w.heap.size (mixL 0 (fun s => δ (dg c s) x) (dg c))]) := O1.kept (grown_trans g2 g3)
  have G3 : Hid (w.grownBy W3 none) := grown_trans (by rw [hW1]; exact grown_alloc _ _) (grown_trans g2 g3)
  have HW3 : Hid (W3 = ((w.alloc (.cells #[.int .i64 ((dg c 0 : Nat) : Int), .int .i64 ((dg c 1 : Nat) : Int), .int .i64 ((dg c 2 : Nat) : Int), .int .i64 ((dg c 3 : Nat) : Int), .int .i64 ((dg c 4 : Nat) : Int)] 83)).alloc (.cells #[.int .i64 l, .int .i64 S, .slice (some ⟨ba, oa, none⟩) n cc, .slice a' mn cc'] 25)).alloc (.cells #[.int .i64 0, .int .i64 0, .int .i64 0, .int .i64 0, .int .i64 0] 83)) := by show _ = _; rw [hW3, hW2, hW1]
  have b2 : W3.cell? ⟨w.heap.size + 1, 2, none⟩ = some (.slice (some ⟨ba, oa, none⟩) n cc) := (bx2 W3 g3).2.2.1
  have z3 := k3 W3 (grown_refl _ _)
  have Fr : Hid (∀ W, W3.grownBy W (some w.heap.size) → w.grownBy W none ∧ W.cell? ⟨w.heap.size + 1, 2, none⟩ = some (.slice (some ⟨ba, oa, none⟩) n cc) ∧ W.heap[w.heap.size + 1 + 1]? = some (.cells #[.int .i64 0, .int .i64 0, .int .i64 0, .int .i64 0, .int .i64 0] 83 (0, 0))) := fun W hW =>
    ⟨grown_new G3.out hW (Nat.le_refl _), hW.cell b2 (by simp), (hW.block _ (by rw [s3]; omega) (by simp; omega)).trans z3⟩
  clear h hG hc hδ hf e hn0 hmn hW1 hs1 hW2 hW3 g2 g3 s2 s3 k3 bx2 O1 b2 z3
  go_enter Try.func78, Try.ntmps78
  go_wp2_with fail
  rw [← HW3.out]
  go_loopw [11] (fun v wr => ∃ k : Nat, v = .int .i64 k ∧ k ≤ n ∧ Owns w.heap.size wr [boxI w.heap.size (mixL k (fun s => δ (dg c s) x) (dg c))] ∧ W3.grownBy wr (some w.heap.size)) (fun v _ => n - (intOf v).toNat)
  case atStart => exact ⟨0, rfl, by omega, O3.out, grown_refl _ _⟩
  case round =>
    clear O3
    obtain ⟨k, rfl, hk, ho, hg⟩ := hrel
    obtain ⟨hgw, b2, hz⟩ := Fr.out wr hg
    by_cases hlt : k < n
    · have hki : (k : Int) < (n : Int) := by omega
      have hk5 : (k : Int) < 5 := by omega
      have x1 := ho.cell (natInts_get (i := k) (by rw [mixL_len]; omega))
      rw [mixL_get (by omega), if_neg (by omega)] at x1
      have f1 := ho.fz k
      have hdk := HL5.out k hlt
      obtain ⟨bx, ox, cx, r1, r2⟩ := HR.out wr (dg c k) hgw hdk
      have h2 := ho.set (i := k) (by omega) (.int .i64 ((δ (dg c k) x : Nat) : Int))
      rw [vals_set, natInts_set] at h2
      have em := mixL_set (k := k) (f := fun s => δ (dg c s) x) (g := dg c) (by omega)
      rw [em] at h2
      have O4 : Hid _ := h2
      have G4 : Hid (W3.grownBy (wr.setCell ⟨w.heap.size, k, none⟩ (.int .i64 ((δ (dg c k) x : Nat) : Int))) (some w.heap.size)) := grown_set2 hg _ _
      have hxi : (x : Int) < (l : Int) := by omega
      have hdi : (dg c k : Int) < (n : Int) := by omega
      clear ho hg h2 em hz hgw
      generalize δ (dg c k) x = y at *
      generalize dg c k = z at *
      go_wp2_with fail
      go_region
      all_goals
        go_wp2_with fail
        go_roundw
        case rel => exact ⟨k + 1, by go_num, by omega, Owns.kept O4.out (grown_drew (grown_refl _ _)), grown_drew G4.out⟩
        case measure => simp [intOf]; omega
    · have hki : ¬ (k : Int) < (n : Int) := by omega
      have hke : k = n := by omega
      subst hke
      rw [boxI, HE.out] at ho
      have c0 := ho.cell (i := 0) rfl
      have c1 := ho.cell (i := 1) rfl
      have c2 := ho.cell (i := 2) rfl
      have c3 := ho.cell (i := 3) rfl
      have c4 := ho.cell (i := 4) rfl
      obtain ⟨z0, z1, z2, z3, z4, zf⟩ := block_cells5 hz
      have y0 := zf 0
      have y1 := zf 1
      have y2 := zf 2
      have y3 := zf 3
      have y4 := zf 4
      obtain ⟨W9, hW9, hg9, hk9⟩ := store5 hz (.int .i64 ((dg cn 0 : Nat) : Int)) (.int .i64 ((dg cn 1 : Nat) : Int)) (.int .i64 ((dg cn 2 : Nat) : Int)) (.int .i64 ((dg cn 3 : Nat) : Int)) (.int .i64 ((dg cn 4 : Nat) : Int))
      obtain ⟨q0, q1, q2, q3, q4, _⟩ := block_cells5 hk9
      have G9 : Hid (w.grownBy W9 none) := grown_new hgw hg9 (by omega)
      clear ho hg hg9 hk9 zf hz hgw b2
      go_wp2_with fail
      rw [← hW9]
      exact bodyPost_ret (v := rowV cn) (by simp [results, Try.results78, go_sem, q0, q1, q2, q3, q4]) rfl ⟨rfl, G9.out⟩

end Go.Proofs.Ytofjboelplknhaa
