/- The reference's Behind: what a rule makes of a config. -/
import Derived.Test.YtmoaolfenllhlaaSkBeh
import Derived.Test.YtmoaolfenllhlaaSkStep
namespace Go.Proofs.Ytmoaolfenllhlaa
open Go.RowKit
set_option linter.unusedVariables false

def BehPost (r : Psh) (c : Cfg) (w : World) (E : Ending) (w' : World) : Prop := ∃ a k, E = .returned (cfgV (behSk r c).1 a (behSk r c).2.length k) ∧ Ints w' a (behSk r c).2 ∧ w.grownBy w' none ∧ (∀ y, a = some y → w.heap.size ≤ y.block) ∧ (behSk r c).2.length ≤ k
theorem four_boxK (w : World) (u0 u1 u2 u3 v0 v1 x0 : Value) (t s : TypeId) : ∃ W, W = ((((w.alloc (.cells #[u0, u1, u2, u3] t)).alloc (.cells #[v0, v1] s)).alloc (.cells #[.int .i64 0, .slice none 0 0] s)).alloc (.cells #[x0, .slice none 0 0] s)) ∧ w.grownBy W none ∧ W.heap.size = w.heap.size + 4 ∧ W.heap[w.heap.size + 1 + 1]? = some (.cells #[.int .i64 0, .slice none 0 0] s (0, 0)) ∧ W.heap[w.heap.size + 1 + 1 + 1]? = some (.cells #[x0, .slice none 0 0] s (0, 0)) ∧ ∀ W', W.grownBy W' none → (W'.cell? ⟨w.heap.size, 0, none⟩ = some u0 ∧ W'.cell? ⟨w.heap.size, 1, none⟩ = some u1 ∧ W'.cell? ⟨w.heap.size, 2, none⟩ = some u2 ∧ W'.cell? ⟨w.heap.size, 3, none⟩ = some u3) ∧ W'.cell? ⟨w.heap.size + 1, 0, none⟩ = some v0 ∧ W'.cell? ⟨w.heap.size + 1, 1, none⟩ = some v1 := by
  obtain ⟨W1, hW1, g1, s1, bx1⟩ := two_boxK w u0 u1 u2 u3 v0 v1 t s
  obtain ⟨W2, hW2, g2, s2, _⟩ := box2_new W1 (.int .i64 0) (.slice none 0 0) s
  obtain ⟨W3, hW3, g3, s3, _⟩ := box2_new W2 x0 (.slice none 0 0) s
  have h2 := heap_alloc_new W1 (.cells #[.int .i64 0, .slice none 0 0] s)
  rw [← hW2, s1] at h2
  have h3 := heap_alloc_new W2 (.cells #[x0, .slice none 0 0] s)
  rw [← hW3, s2, s1] at h3
  exact ⟨W3, by rw [hW3, hW2, hW1], grown_trans g1 (grown_trans g2 g3), by omega, (g3.block _ (by omega) (by simp)).trans h2, h3, fun W' h => bx1 W' (grown_trans g2 (grown_trans g3 h))⟩
theorem cap_of_row {w : World} {B n c : Nat} {a : Option Addr} {zs : List Int} (h : w.ownsRow B 3 1 (.slice a n c) zs.length (numsI zs)) : zs.length ≤ c := by
  have h2 := h.2
  rcases h2 with ⟨h1, h3⟩ | ⟨g, cap, cur, h1, _, _, h4, _⟩
  · omega
  · simp only [Value.slice.injEq] at h1
    omega

attribute [local go_sem ↓] appY_fold in
set_option maxHeartbeats 6400000 in
set_option maxRecDepth 100000 in
theorem behSk_any (r : Psh) (c : Cfg) (ap b : Option Addr) (cp k : Nat) (w : World) (hp : Ints w ap r.P) (hc : Ints w b c.2) (hpl : r.P.length ≤ 300) (hcl : c.2.length ≤ 300) (hc0 : 0 < c.2.length) (hck : c.2.length ≤ k) :
    Calls Try.prog 9 #[pshV r.F r.T r.O ap r.P.length cp, cfgV c.1 b c.2.length k] w (BehPost r c w) := by
  obtain ⟨W4, hW4, g4, s4, hr4, ho4, bx4⟩ := four_boxK w (.int .i64 r.F) (.int .i64 r.T) (.int .i64 r.O) (.slice ap r.P.length cp) (.int .i64 c.1) (.slice b c.2.length k) (.int .i64 r.O) 33 25
  obtain ⟨at', kt, htl, hkt, hti⟩ := tail_run b c.2.length k (by omega) hck
  have HTl : Hid (∀ W, Ints W b c.2 → Ints W at' (c.2.drop 1)) := fun W hW => hti W c.2 rfl hW
  have hdl : (c.2.drop 1).length = c.2.length - 1 := by simp
  -- the first append
  obtain ⟨a1, c1, wA, hrA, hoA, hgA⟩ := app_anyY (w := W4) (B := W4.heap.size) (a0 := none) (c0 := 0) (c := cp) (xs := []) (World.ownsRow_nil W4 _ _ _) (Nat.le_refl _) (hp.grown g4) (by simp; omega)
  simp only [List.length_nil, List.nil_append, Nat.zero_add] at hrA hoA
  have hgA : W4.grownBy wA none := hgA
  have ho1 : wA.heap[w.heap.size + 1 + 1 + 1]? = some (.cells #[.int .i64 r.O, .slice none 0 0] 25 (0, 0)) := (hgA.block _ (by omega) (by simp)).trans ho4
  have q0 : wA.cell? ⟨w.heap.size + 1 + 1 + 1, 0, none⟩ = some (.int .i64 r.O) := by rw [cell_of_row _ _ 0 _ _ (0, 0) ho1]; rfl
  have q1 : wA.cell? ⟨w.heap.size + 1 + 1 + 1, 1, none⟩ = some (.slice none 0 0) := by rw [cell_of_row _ _ 1 _ _ (0, 0) ho1]; rfl
  have q2 : wA.frozen? ⟨w.heap.size + 1 + 1 + 1, 1, none⟩ = false := frozen_of_row _ _ _ _ _ ho1
  obtain ⟨W5, hW5⟩ : ∃ W5, W5 = wA.setCell ⟨w.heap.size + 1 + 1 + 1, 1, none⟩ (.slice a1 r.P.length c1) := ⟨_, rfl⟩
  have g5 : wA.grownBy W5 (some (w.heap.size + 1 + 1 + 1)) := by rw [hW5]; exact grown_set _ _ _
  have ho5 := heap_setCell_same wA (w.heap.size + 1 + 1 + 1) 1 _ _ (.slice a1 r.P.length c1) ho1
  rw [← hW5] at ho5
  have n5 : W5.cell? ⟨w.heap.size + 1 + 1 + 1, 1, none⟩ = some (.slice a1 r.P.length c1) := by rw [cell_of_row _ _ 1 _ _ (0, 0) ho5]; simp
  have row5 : W5.ownsRow W4.heap.size 3 1 (.slice a1 r.P.length c1) r.P.length (numsI r.P) := hoA.kept g5 (.inr (fun e => by have := (hoA.lt _ e).1; omega))
  have G5 : w.grownBy W5 none := grown_new (grown_trans g4 hgA) g5 (by omega)
  have G45 : W4.grownBy W5 (some (w.heap.size + 1 + 1 + 1)) := grown_trans (grown_some hgA) g5
  -- the second
  obtain ⟨a2, c2, wB, hrB, hoB, hgB⟩ := app_anyY (w := W5.drew) (B := W4.heap.size) (c := kt) (us := c.2.drop 1) (row5.kept (grown_drew (grown_refl W5 none)) (by cases (Value.slice a1 r.P.length c1).ownBlock <;> simp)) (G45.size) (HTl.out _ (hc.grown (grown_drew G5))) (by rw [hdl]; omega)
  rw [hdl] at hrB
  have hblk : ∀ q, (Value.slice a1 r.P.length c1).ownBlock = some q → W4.heap.size ≤ q := fun q e => (row5.lt q e).1
  have far : ∀ i, i < W4.heap.size → wB.heap[i]? = W5.heap[i]? := fun i hi => hgB.block i (Nat.lt_of_lt_of_le hi G45.size) (fun e => by have := hblk i e.symm; omega)
  have hoZ : wB.heap[w.heap.size + 1 + 1 + 1]? = _ := (far _ (by omega)).trans ho5
  have hrZ : wB.heap[w.heap.size + 1 + 1]? = some (.cells #[.int .i64 0, .slice none 0 0] 25 (0, 0)) := by
    rw [far _ (by omega), g5.block _ (by have := hgA.size; omega) (by simp), hgA.block _ (by omega) (by simp)]
    exact hr4
  have p0 : wB.cell? ⟨w.heap.size + 1 + 1 + 1, 0, none⟩ = some (.int .i64 r.O) := by rw [cell_of_row _ _ 0 _ _ (0, 0) hoZ]; simp
  have p1 : wB.cell? ⟨w.heap.size + 1 + 1 + 1, 1, none⟩ = some (.slice a1 r.P.length c1) := by rw [cell_of_row _ _ 1 _ _ (0, 0) hoZ]; simp
  have p2 : wB.frozen? ⟨w.heap.size + 1 + 1 + 1, 1, none⟩ = false := frozen_of_row _ _ _ _ _ hoZ
  have GB : w.grownBy wB none := grown_of_below ((below_of_grown (grown_drew G5)).grown hgB (grown_drew G5).size (fun q hq => by have := hblk q hq; omega))
  obtain ⟨W6, hW6⟩ : ∃ W6, W6 = wB.setCell ⟨w.heap.size + 1 + 1 + 1, 1, none⟩ (.slice a2 (r.P.length + (c.2.length - 1)) c2) := ⟨_, rfl⟩
  have g6 : wB.grownBy W6 (some (w.heap.size + 1 + 1 + 1)) := by rw [hW6]; exact grown_set _ _ _
  have ho6 := heap_setCell_same wB (w.heap.size + 1 + 1 + 1) 1 _ _ (.slice a2 (r.P.length + (c.2.length - 1)) c2) hoZ
  rw [← hW6] at ho6
  have u0 : W6.cell? ⟨w.heap.size + 1 + 1 + 1, 0, none⟩ = some (.int .i64 r.O) := by rw [cell_of_row _ _ 0 _ _ (0, 0) ho6]; simp
  have u1 : W6.cell? ⟨w.heap.size + 1 + 1 + 1, 1, none⟩ = some (.slice a2 (r.P.length + (c.2.length - 1)) c2) := by rw [cell_of_row _ _ 1 _ _ (0, 0) ho6]; simp
  have hr6 : W6.heap[w.heap.size + 1 + 1]? = some (.cells #[.int .i64 0, .slice none 0 0] 25 (0, 0)) := (g6.block _ (by have := GB.size; have := hgB.size; have := G45.size; simp at *; omega) (by simp)).trans hrZ
  have row6 : W6.ownsRow W4.heap.size 3 1 (.slice a2 (r.P ++ c.2.drop 1).length c2) (r.P ++ c.2.drop 1).length (numsI (r.P ++ c.2.drop 1)) := hoB.kept g6 (.inr (fun e => by have := (hoB.lt _ e).1; omega))
  obtain ⟨xr0, xr1, fr0, fr1, W7, hW7, g7, xw0, xw1⟩ := cfg_store hr6 r.O (.slice a2 (r.P.length + (c.2.length - 1)) c2)
  have row7 : W7.ownsRow W4.heap.size 3 1 (.slice a2 (r.P ++ c.2.drop 1).length c2) (r.P ++ c.2.drop 1).length (numsI (r.P ++ c.2.drop 1)) := row6.kept g7 (.inr (fun e => by have := (row6.lt _ e).1; omega))
  have G7 : w.grownBy W7 none := grown_new (grown_new GB g6 (by omega)) g7 (by omega)
  obtain ⟨Po, hPo⟩ : ∃ P, P = BehPost r c w := ⟨_, rfl⟩
  have Fin : Hid (Po (.returned (cfgV r.O a2 (r.P.length + (c.2.length - 1)) c2)) W7) := by
    show Po _ _
    rw [hPo]
    refine ⟨a2, c2, by show _ = Ending.returned (cfgV r.O a2 (r.P ++ c.2.drop 1).length c2); rw [List.length_append, hdl], ints_of_row row7, G7, fun y hy => ?_, cap_of_row row7⟩
    have := new_of_row row7 y hy
    omega
  rw [← hPo]
  obtain ⟨⟨t0, t1, t2, t3⟩, v0, v1⟩ := bx4 W4 (grown_refl _ _)
  have v1' : W5.cell? ⟨w.heap.size + 1, 1, none⟩ = some (.slice b c.2.length k) := by
    have h1 := (bx4 wA hgA).2.2
    exact g5.cell h1 (by simp)
  have t3' : W4.cell? ⟨w.heap.size + 1 + 1 + 1, 1, none⟩ = some (.slice none 0 0) := by rw [cell_of_row _ _ 1 _ _ (0, 0) ho4]; rfl
  have HW4 : Hid (W4 = _) := hW4
  have HW5 : Hid (W5 = _) := hW5
  have HW6 : Hid (W6 = _) := hW6
  have HW7 : Hid (W7 = _) := hW7
  rw [hW4] at t0 t1 t2 t3 v0 v1 t3' hrA
  clear hp hc hpl hcl hck hti HTl hdl hoA hgA ho1 row5 G5 G45 hoB hgB hblk far hoZ hrZ GB ho6 hr6 row6 row7 G7 g4 g5 g6 g7 s4 hr4 ho4 bx4 ho5 hPo hW4 hW5 hW6 hW7
  go_enter Try.func9, Try.ntmps9
  go_wp2_with fail
  rw [← HW5.out]
  go_region
  rw [← HW6.out]
  go_wp2_with fail
  rw [← HW7.out]
  first | exact Fin.out | exact bodyPost_ret (v := cfgV r.O a2 (r.P.length + (c.2.length - 1)) c2) (by simp [results, Try.results9, go_sem, xw0, xw1]) rfl Fin.out

end Go.Proofs.Ytmoaolfenllhlaa
