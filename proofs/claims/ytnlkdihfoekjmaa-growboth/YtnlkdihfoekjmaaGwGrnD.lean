/- The tree that is grown, as it is written: its box, its rows, how they grow; the place of a state. -/
import Derived.Test.YtnlkdihfoekjmaaGwDesc
namespace Go.Proofs.Ytnlkdihfoekjmaa
open Go.RowKit
set_option linter.unusedVariables false
set_option linter.unusedSimpArgs false
attribute [local go_sem ↓] app_fold

theorem nvals_map (l : List Nat) : nvals l = vals (l.map (fun (n : Nat) => (n : Int))) := by simp [vals, nvals]
theorem nvals_snoc (l : List Nat) (x : Nat) : nvals l ++ [.int .i64 (x : Int)] = nvals (l ++ [x]) := by simp [nvals]
abbrev gnI (gb : Nat) (u0 u1 u2 u3 : Value) : Item := (28, .slice (some ⟨gb, 0, none⟩) 4 4, [u0, u1, u2, u3])
abbrev nilV : Value := .slice none 0 0
/-- The tree as it is written. -/
structure GrB (w0 : World) (B gb gr : Nat) (u0 u1 u2 u3 : Value) (zl : List Int) (X zf zr : List Nat) (w : World) : Prop where
  own : Owns B w [gnI gb u0 u1 u2 u3, (3, u0, vals zl), (3, u1, nvals X), (3, u2, nvals zf), (3, u3, nvals zr), gnI gr nilV nilV nilV nilV]
  gr : w0.grownBy w none
  lb : w0.heap.size ≤ B
  lz : B ≤ w.heap.size
theorem tree_push {w0 w W : World} {B gb j k : Nat} {us : List Value} {v : Value} {zs : List Int} {x : Int} {r : List Item} (h : Owns B w ((28, .slice (some ⟨gb, 0, none⟩) 4 4, us) :: (3, v, vals zs) :: r)) (h0 : w0.grownBy w none) (hB : w0.heap.size ≤ B) (hg : w.grownBy W none) (hk : B ≤ k) (hs : W.heap.size = k + 1) (hN : W.cell? ⟨k, 0, none⟩ = some (.int .i64 x)) (hl : zs.length ≤ 1000) (hj : j < 4) :
    ∃ g' cap w5, (AppS #[23, 23] 23 #[v, .slice (some ⟨k, 0, none⟩) 1 1]).run Try.prog W = .ok (.slice (some ⟨g', 0, none⟩) (zs.length + 1) cap) w5 ∧ (∀ i u, us[i]? = some u → w5.cell? ⟨gb, i, none⟩ = some u) ∧ w5.frozen? ⟨gb, j, none⟩ = false ∧
      Owns B (w5.setCell ⟨gb, j, none⟩ (.slice (some ⟨g', 0, none⟩) (zs.length + 1) cap)) ((28, .slice (some ⟨gb, 0, none⟩) 4 4, us.set j (.slice (some ⟨g', 0, none⟩) (zs.length + 1) cap)) :: (3, .slice (some ⟨g', 0, none⟩) (zs.length + 1) cap, vals (zs ++ [x])) :: r) ∧
      w0.grownBy (w5.setCell ⟨gb, j, none⟩ (.slice (some ⟨g', 0, none⟩) (zs.length + 1) cap)) none ∧ KpRu W w5 ∧ KpRu W (w5.setCell ⟨gb, j, none⟩ (.slice (some ⟨g', 0, none⟩) (zs.length + 1) cap)) ∧ B ≤ (w5.setCell ⟨gb, j, none⟩ (.slice (some ⟨g', 0, none⟩) (zs.length + 1) cap)).heap.size ∧ w0.grownBy w5 none := by
  have hK := h.kept hg
  have hr := (gat_2 hK).row
  rw [vals_len] at hr
  obtain ⟨g', cap, w5, h1, h2, h3, h4⟩ := run_push W B k zs.length v zs x hr hl rfl hs hk hN
  obtain ⟨cw, c1, c2, c3, c4⟩ := hK.field (j := j) hj (vals_len zs) h2 h3 h4 hs (grown_trans h0 hg) hB
  rw [vals_snoc] at c3
  refine ⟨g', cap, w5, h1, c1, c2, c3, c4, KpRu.row (gat_2 hK) h3 (by decide), (KpRu.row (gat_2 hK) h3 (by decide)).trans (KpRu.set cw (by decide)), ?_, (gat_2 hK).frame hB (grown_trans h0 hg) h3⟩
  have := h3.size; simp [World.setCell]; omega
section
variable {w0 w w' : World} {B gb gr : Nat} {u0 u1 u2 u3 : Value} {zl : List Int} {X zf zr : List Nat}
theorem GrB.kept (h : GrB w0 B gb gr u0 u1 u2 u3 zl X zf zr w) (hg : w.grownBy w' none) : GrB w0 B gb gr u0 u1 u2 u3 zl X zf zr w' := ⟨h.own.kept hg, grown_trans h.gr hg, h.lb, Nat.le_trans h.lz hg.size⟩
theorem GrB.cells (h : GrB w0 B gb gr u0 u1 u2 u3 zl X zf zr w) : w.cell? ⟨gb, 0, none⟩ = some u0 ∧ w.cell? ⟨gb, 1, none⟩ = some u1 ∧ w.cell? ⟨gb, 2, none⟩ = some u2 ∧ w.cell? ⟨gb, 3, none⟩ = some u3 := ⟨h.own.cell (i := 0) rfl, h.own.cell (i := 1) rfl, h.own.cell (i := 2) rfl, h.own.cell (i := 3) rfl⟩
theorem gr_at1 {B : Nat} {w : World} {a b c d e f : Item} : Owns B w [a, b, c, d, e, f] ↔ Owns B w [a, c, b, d, e, f] :=
  ⟨fun h => h.perm (List.Perm.cons a (List.perm_middle (l₁ := [b]))), fun h => h.perm (List.Perm.cons a (List.perm_middle (l₁ := [c])))⟩
theorem gr_at2 {B : Nat} {w : World} {a b c d e f : Item} : Owns B w [a, b, c, d, e, f] ↔ Owns B w [a, d, b, c, e, f] :=
  ⟨fun h => h.perm (List.Perm.cons a (List.perm_middle (l₁ := [b, c]))), fun h => h.perm (List.Perm.cons a (List.perm_middle (l₁ := [b, c])).symm)⟩
theorem gr_at3 {B : Nat} {w : World} {a b c d e f : Item} : Owns B w [a, b, c, d, e, f] ↔ Owns B w [a, e, b, c, d, f] :=
  ⟨fun h => h.perm (List.Perm.cons a (List.perm_middle (l₁ := [b, c, d]))), fun h => h.perm (List.Perm.cons a (List.perm_middle (l₁ := [b, c, d])).symm)⟩
/-- A letter is put behind. -/
theorem GrB.pushL (h : GrB w0 B gb gr u0 u1 u2 u3 zl X zf zr w) {W : World} {x : Int} {k : Nat} (hg : w.grownBy W none) (hk : B ≤ k) (hs : W.heap.size = k + 1) (hN : W.cell? ⟨k, 0, none⟩ = some (.int .i64 x)) (hl : zl.length ≤ 1000) :
    ∃ g' cap w5, (AppS #[23, 23] 23 #[u0, .slice (some ⟨k, 0, none⟩) 1 1]).run Try.prog W = .ok (.slice (some ⟨g', 0, none⟩) (zl.length + 1) cap) w5 ∧ w5.cell? ⟨gb, 0, none⟩ = some u0 ∧ w5.frozen? ⟨gb, 0, none⟩ = false ∧
      GrB w0 B gb gr (.slice (some ⟨g', 0, none⟩) (zl.length + 1) cap) u1 u2 u3 (zl ++ [x]) X zf zr (w5.setCell ⟨gb, 0, none⟩ (.slice (some ⟨g', 0, none⟩) (zl.length + 1) cap)) ∧ KpRu W w5 ∧ KpRu W (w5.setCell ⟨gb, 0, none⟩ (.slice (some ⟨g', 0, none⟩) (zl.length + 1) cap)) ∧ w0.grownBy w5 none := by
  obtain ⟨g', cap, w5, p1, p2, p3, p4, p5, p6, p7, p8, p9⟩ := tree_push (j := 0) h.own h.gr h.lb hg hk hs hN hl (by omega)
  exact ⟨g', cap, w5, p1, p2 0 _ rfl, p3, ⟨by simpa using p4, p5, h.lb, p8⟩, p6, p7, p9⟩
/-- A state is put behind. -/
theorem GrB.pushX (h : GrB w0 B gb gr u0 u1 u2 u3 zl X zf zr w) {W : World} {x : Nat} {k : Nat} (hg : w.grownBy W none) (hk : B ≤ k) (hs : W.heap.size = k + 1) (hN : W.cell? ⟨k, 0, none⟩ = some (.int .i64 (x : Int))) (hl : X.length ≤ 1000) :
    ∃ g' cap w5, (AppS #[23, 23] 23 #[u1, .slice (some ⟨k, 0, none⟩) 1 1]).run Try.prog W = .ok (.slice (some ⟨g', 0, none⟩) (X.length + 1) cap) w5 ∧ w5.cell? ⟨gb, 1, none⟩ = some u1 ∧ w5.frozen? ⟨gb, 1, none⟩ = false ∧
      GrB w0 B gb gr u0 (.slice (some ⟨g', 0, none⟩) (X.length + 1) cap) u2 u3 zl (X ++ [x]) zf zr (w5.setCell ⟨gb, 1, none⟩ (.slice (some ⟨g', 0, none⟩) (X.length + 1) cap)) ∧ KpRu W w5 ∧ KpRu W (w5.setCell ⟨gb, 1, none⟩ (.slice (some ⟨g', 0, none⟩) (X.length + 1) cap)) ∧ w0.grownBy w5 none := by
  have ho := gr_at1.1 h.own
  rw [nvals_map X] at ho
  obtain ⟨g', cap, w5, p1, p2, p3, p4, p5, p6, p7, p8, p9⟩ := tree_push (j := 1) ho h.gr h.lb hg hk hs hN (by simpa using hl) (by omega)
  have e : vals (X.map (fun (n : Nat) => (n : Int)) ++ [(x : Int)]) = nvals (X ++ [x]) := by simp [vals, nvals]
  rw [e] at p4
  simp only [List.length_map] at p1 p4 p5 p7 p8
  exact ⟨g', cap, w5, p1, p2 1 _ rfl, p3, ⟨gr_at1.2 (by simpa using p4), p5, h.lb, p8⟩, p6, p7, p9⟩
/-- The place of the left one is put behind. -/
theorem GrB.pushF (h : GrB w0 B gb gr u0 u1 u2 u3 zl X zf zr w) {W : World} {x : Nat} {k : Nat} (hg : w.grownBy W none) (hk : B ≤ k) (hs : W.heap.size = k + 1) (hN : W.cell? ⟨k, 0, none⟩ = some (.int .i64 (x : Int))) (hl : zf.length ≤ 1000) :
    ∃ g' cap w5, (AppS #[23, 23] 23 #[u2, .slice (some ⟨k, 0, none⟩) 1 1]).run Try.prog W = .ok (.slice (some ⟨g', 0, none⟩) (zf.length + 1) cap) w5 ∧ w5.cell? ⟨gb, 2, none⟩ = some u2 ∧ w5.frozen? ⟨gb, 2, none⟩ = false ∧
      GrB w0 B gb gr u0 u1 (.slice (some ⟨g', 0, none⟩) (zf.length + 1) cap) u3 zl X (zf ++ [x]) zr (w5.setCell ⟨gb, 2, none⟩ (.slice (some ⟨g', 0, none⟩) (zf.length + 1) cap)) ∧ KpRu W w5 ∧ KpRu W (w5.setCell ⟨gb, 2, none⟩ (.slice (some ⟨g', 0, none⟩) (zf.length + 1) cap)) ∧ w0.grownBy w5 none := by
  have ho := gr_at2.1 h.own
  rw [nvals_map zf] at ho
  obtain ⟨g', cap, w5, p1, p2, p3, p4, p5, p6, p7, p8, p9⟩ := tree_push (j := 2) ho h.gr h.lb hg hk hs hN (by simpa using hl) (by omega)
  have e : vals (zf.map (fun (n : Nat) => (n : Int)) ++ [(x : Int)]) = nvals (zf ++ [x]) := by simp [vals, nvals]
  rw [e] at p4
  simp only [List.length_map] at p1 p4 p5 p7 p8
  exact ⟨g', cap, w5, p1, p2 2 _ rfl, p3, ⟨gr_at2.2 (by simpa using p4), p5, h.lb, p8⟩, p6, p7, p9⟩
/-- The place of the right one is put behind. -/
theorem GrB.pushR (h : GrB w0 B gb gr u0 u1 u2 u3 zl X zf zr w) {W : World} {x : Nat} {k : Nat} (hg : w.grownBy W none) (hk : B ≤ k) (hs : W.heap.size = k + 1) (hN : W.cell? ⟨k, 0, none⟩ = some (.int .i64 (x : Int))) (hl : zr.length ≤ 1000) :
    ∃ g' cap w5, (AppS #[23, 23] 23 #[u3, .slice (some ⟨k, 0, none⟩) 1 1]).run Try.prog W = .ok (.slice (some ⟨g', 0, none⟩) (zr.length + 1) cap) w5 ∧ w5.cell? ⟨gb, 3, none⟩ = some u3 ∧ w5.frozen? ⟨gb, 3, none⟩ = false ∧
      GrB w0 B gb gr u0 u1 u2 (.slice (some ⟨g', 0, none⟩) (zr.length + 1) cap) zl X zf (zr ++ [x]) (w5.setCell ⟨gb, 3, none⟩ (.slice (some ⟨g', 0, none⟩) (zr.length + 1) cap)) ∧ KpRu W w5 ∧ KpRu W (w5.setCell ⟨gb, 3, none⟩ (.slice (some ⟨g', 0, none⟩) (zr.length + 1) cap)) ∧ w0.grownBy w5 none := by
  have ho := gr_at3.1 h.own
  rw [nvals_map zr] at ho
  obtain ⟨g', cap, w5, p1, p2, p3, p4, p5, p6, p7, p8, p9⟩ := tree_push (j := 3) ho h.gr h.lb hg hk hs hN (by simpa using hl) (by omega)
  have e : vals (zr.map (fun (n : Nat) => (n : Int)) ++ [(x : Int)]) = nvals (zr ++ [x]) := by simp [vals, nvals]
  rw [e] at p4
  simp only [List.length_map] at p1 p4 p5 p7 p8
  exact ⟨g', cap, w5, p1, p2 3 _ rfl, p3, ⟨gr_at3.2 (by simpa using p4), p5, h.lb, p8⟩, p6, p7, p9⟩
theorem GrB.formX (h : GrB w0 B gb gr u0 u1 u2 u3 zl X zf zr w) : ∃ a c, u1 = .slice a X.length c ∧ ∀ j, j < X.length → ∃ g, a = some ⟨g, 0, none⟩ ∧ w.cell? ⟨g, j, none⟩ = some (.int .i64 ((X.getD j 0 : Nat) : Int)) := by
  have ho := gat_2 (gr_at1.1 h.own)
  obtain ⟨_, a, c, e⟩ := ho.head
  have e' : u1 = .slice a X.length c := by simpa [nvals_len] using e
  refine ⟨a, c, e', fun j hj => ?_⟩
  obtain ⟨g, cap, e2, _⟩ := ho.form (by rw [nvals_len]; omega)
  subst e'
  simp only [Value.slice.injEq] at e2
  obtain ⟨rfl, _, _⟩ := e2
  exact ⟨g, rfl, ho.cell (nvals_get hj)⟩
end

def IdxR (X : List Nat) (s : Nat) : Int := if s ∈ X then ((X.idxOf s : Nat) : Int) else -1
theorem idx_first {s : Nat} : ∀ (X : List Nat) (k : Nat), k < X.length → (∀ j, j < k → X.getD j 0 ≠ s) → X.getD k 0 = s → X.idxOf s = k
  | [], k, hk, _, _ => by simp at hk
  | x :: r, 0, _, _, h => by
    have h' : x = s := h
    rw [h', List.idxOf_cons_self]
  | x :: r, k + 1, hk, h1, h2 => by
    have hx : x ≠ s := h1 0 (by omega)
    have ih := idx_first r k (by simpa using hk) (fun j hj => h1 (j + 1) (by omega)) h2
    rw [List.idxOf_cons, ih, beq_false_of_ne hx]
    rfl
theorem idx_found {X : List Nat} {s k : Nat} (hk : k < X.length) (h1 : ∀ j, j < k → X.getD j 0 ≠ s) (h2 : X.getD k 0 = s) : IdxR X s = (k : Int) := by
  have hm : s ∈ X := h2 ▸ getD_memW hk
  unfold IdxR
  rw [if_pos hm, idx_first X k hk h1 h2]
theorem idx_none {X : List Nat} {s : Nat} (h1 : ∀ j, j < X.length → X.getD j 0 ≠ s) : IdxR X s = -1 ∧ s ∉ X := by
  have hm : s ∉ X := fun h => by
    have hi := List.idxOf_lt_length_of_mem h
    exact h1 _ hi (by simp [List.getD, hi])
  exact ⟨by unfold IdxR; rw [if_neg hm], hm⟩

set_option maxHeartbeats 1600000 in
theorem indexI_any (X : List Nat) (s c : Nat) (a : Option Addr) (w : World) (h : ∀ j, j < X.length → ∃ g, a = some ⟨g, 0, none⟩ ∧ w.cell? ⟨g, j, none⟩ = some (.int .i64 ((X.getD j 0 : Nat) : Int))) (hl : X.length ≤ 1000) :
    Calls Try.prog 32 #[.slice a X.length c, .int .i64 (s : Int)] w (Says (.int .i64 (IdxR X s)) w) := by
  have H : Hid (∀ j, j < X.length → ∃ g, a = some ⟨g, 0, none⟩ ∧ w.cell? ⟨g, j, none⟩ = some (.int .i64 ((X.getD j 0 : Nat) : Int))) := h
  have HF : Hid (∀ k, k < X.length → (∀ j, j < k → X.getD j 0 ≠ s) → X.getD k 0 = s → IdxR X s = (k : Int)) := fun k hk h1 h2 => idx_found hk h1 h2
  have HN : Hid ((∀ j, j < X.length → X.getD j 0 ≠ s) → IdxR X s = -1) := fun h1 => (idx_none h1).1
  generalize IdxR X s = z at *
  obtain ⟨n, hn⟩ : ∃ n, X.length = n := ⟨_, rfl⟩
  rw [hn] at H HF HN hl ⊢
  clear h hn
  go_enter Try.func32, Try.ntmps32
  go_wp2_with fail
  go_loop [8] (fun v => ∃ k : Nat, k ≤ n ∧ v = .int .i64 k ∧ ∀ j, j < k → X.getD j 0 ≠ s) (fun v => n - (intOf v).toNat)
  case atStart => exact ⟨0, Nat.zero_le _, rfl, fun j hj => by omega⟩
  case round =>
    obtain ⟨k, hk, rfl, hg⟩ := hrel
    have HJ : Hid (∀ j, j < k → X.getD j 0 ≠ s) := hg
    clear hg
    by_cases hlt : k < n
    · obtain ⟨g, rfl, hc⟩ := H.out k hlt
      have hki : (k : Int) < (n : Int) := by omega
      have HT : Hid (X.getD k 0 ≠ s → ∀ j, j < k + 1 → X.getD j 0 ≠ s) := fun hh j hj => by
        by_cases hjk : j = k
        · subst hjk; exact hh
        · exact HJ.out j (by omega)
      have HF2 : Hid (X.getD k 0 = s → z = (k : Int)) := fun hh => HF.out k hlt HJ.out hh
      generalize X.getD k 0 = q at *
      by_cases hq : q = s
      · have d1 : ((s : Int) == (q : Int)) = true := by simp [hq]
        have Hz : Hid (z = (k : Int)) := HF2.out hq
        clear HT HF2 hq
        go_wp2_with fail
        go_ret
        exact ⟨ret_int Hz.out.symm, grown_refl _ _⟩
      · have d1 : ((s : Int) == (q : Int)) = false := by simp; omega
        have HT2 : Hid _ := HT.out hq
        clear HT HF2 hq
        go_wp2_with fail
        go_round
        case rel => exact ⟨k + 1, by omega, by go_num, HT2.out⟩
        case measure => simp [intOf]; omega
    · have hki : ¬ (k : Int) < (n : Int) := by omega
      have Hz : Hid (z = -1) := HN.out (fun j hj => HJ.out j (by omega))
      go_wp2_with fail
      go_ret
      exact ⟨ret_int Hz.out.symm, grown_refl _ _⟩

def PlcPost (w0 : World) (B gb gr : Nat) (u0 u2 u3 : Value) (zl : List Int) (X zf zr : List Nat) (s : Nat) (w : World) (E : Ending) (w' : World) : Prop :=
  ∃ u1, E = .returned (.int .i64 ((X.idxOf s : Nat) : Int)) ∧ GrB w0 B gb gr u0 u1 u2 u3 zl (plX X s) zf zr w' ∧ KpRu w w'

set_option maxHeartbeats 3200000 in
set_option maxRecDepth 100000 in
theorem placeOf_any (w0 : World) (B gb gr : Nat) (u0 u1 u2 u3 : Value) (zl : List Int) (X zf zr : List Nat) (s : Nat) (w : World) (h : GrB w0 B gb gr u0 u1 u2 u3 zl X zf zr w) (hl : X.length ≤ 100) :
    Calls Try.prog 26 #[.pointer (some ⟨gb, 0, none⟩), .int .i64 (s : Int)] w (PlcPost w0 B gb gr u0 u2 u3 zl X zf zr s w) := by
  obtain ⟨a, c, rfl, hX⟩ := h.formX
  obtain ⟨b0, b1, b2, b3⟩ := h.cells
  have H : Hid (GrB w0 B gb gr u0 (.slice a X.length c) u2 u3 zl X zf zr w) := h
  have CI : Hid (Calls Try.prog 32 #[.slice a X.length c, .int .i64 (s : Int)] w (Says (.int .i64 (IdxR X s)) w)) := indexI_any X s c a w hX (by omega)
  obtain ⟨Po, hPo⟩ : ∃ P, P = PlcPost w0 B gb gr u0 u2 u3 zl X zf zr s w := ⟨_, rfl⟩
  have HPo : Hid (Po = PlcPost w0 B gb gr u0 u2 u3 zl X zf zr s w) := hPo
  rw [← hPo]
  by_cases hm : s ∈ X
  · have e : IdxR X s = ((X.idxOf s : Nat) : Int) := by unfold IdxR; rw [if_pos hm]
    rw [e] at CI
    have HF : Hid (∀ W, w.grownBy W none → Po (.returned (.int .i64 ((X.idxOf s : Nat) : Int))) W) := fun W hW => by
      rw [HPo.out]
      refine ⟨.slice a X.length c, rfl, ?_, KpRu.of hW⟩
      have : plX X s = X := by unfold plX; rw [if_pos hm]
      rw [this]
      exact H.out.kept hW
    clear h hX hPo e hm
    generalize X.idxOf s = q at *
    have d0 : decide ((q : Int) < 0) = false := by simp
    go_enter Try.func26, Try.ntmps26
    go_wp2_with fail
    refine CI.out.mono ?_
    rintro E w2 ⟨rfl, hg2⟩
    have Fin : Hid (Po (.returned (.int .i64 (q : Int))) w2) := HF.out w2 hg2
    clear hg2 HF
    go_wp2_with fail
    first | exact Fin.out | (go_ret; exact Fin.out)
  · have e : IdxR X s = -1 := by unfold IdxR; rw [if_neg hm]
    rw [e] at CI
    have e2 : plX X s = X ++ [s] := by unfold plX; rw [if_neg hm]
    have e3 : X.idxOf s = X.length := List.idxOf_eq_length hm
    have HA : Hid (∀ w2, w.grownBy w2 none → w2.cell? ⟨gb, 1, none⟩ = some (.slice a X.length c) ∧ (w2.alloc (.cells #[.int .i64 (s : Int)] 3)).cell? ⟨gb, 1, none⟩ = some (.slice a X.length c) ∧ ∃ g' cap w5, (AppS #[23, 23] 23 #[.slice a X.length c, .slice (some ⟨w2.heap.size, 0, none⟩) 1 1]).run Try.prog (w2.alloc (.cells #[.int .i64 (s : Int)] 3)) = .ok (.slice (some ⟨g', 0, none⟩) (X.length + 1) cap) w5 ∧ w5.cell? ⟨gb, 1, none⟩ = some (.slice a X.length c) ∧ w5.frozen? ⟨gb, 1, none⟩ = false ∧ Hid (Po (.returned (.int .i64 ((X.length : Nat) : Int))) (w5.setCell ⟨gb, 1, none⟩ (.slice (some ⟨g', 0, none⟩) (X.length + 1) cap)))) := fun w2 hg2 => by
      obtain ⟨q1, q2, q3⟩ := one_cell w2 (.int .i64 (s : Int)) 3
      have M2 := H.out.kept hg2
      obtain ⟨g', cap, w5, p1, p2, p3, p4, p5, p6, p7⟩ := M2.pushX q1 M2.lz q2 q3 (by omega)
      refine ⟨M2.cells.2.1, q1.cell M2.cells.2.1 (by simp), g', cap, w5, p1, p2, p3, ?_⟩
      show Po _ _
      rw [HPo.out]
      refine ⟨.slice (some ⟨g', 0, none⟩) (X.length + 1) cap, by rw [e3], by rw [e2]; exact p4, (KpRu.of (grown_trans hg2 q1)).trans p6⟩
    clear h hX hPo e hm e2 e3
    have d0 : decide ((-1 : Int) < 0) = true := by decide
    generalize X.length = n at *
    go_enter Try.func26, Try.ntmps26
    go_wp2_with fail
    refine CI.out.mono ?_
    rintro E w2 ⟨rfl, hg2⟩
    obtain ⟨x1, x2, g', cap, w5, hrun, y1, z1, Fin⟩ := HA.out w2 hg2
    clear hg2 HA
    go_wp2_with fail
    first | exact Fin.out | (go_ret; exact Fin.out)

end Go.Proofs.Ytnlkdihfoekjmaa
