/- What is answered of a least automaton, with an error beside it; two boxes. -/
/- det.Least: what is not right is refused; the least one of what is. -/
import Derived.Test.YticmfgclkepgoaaHLeastD
import Derived.Test.YticmfgclkepgoaaJoins
import Derived.Test.YticmfgclkepgoaaHLeast
import Derived.Test.YticmfgclkepgoaaDChk
namespace Go.Proofs.Yticmfgclkepgoaa
open Go.RowKit
set_option linter.unusedVariables false

theorem LeastPost.base {δ : Nat → Nat → Nat} {m : Nat → Bool} {n l S : Nat} {w W w' : World} {E : Ending} (h : LeastPost δ m n l S W E w') (hg : w.grownBy W none) : LeastPost δ m n l S w E w' := by
  obtain ⟨aR, cR, aM, cM, rs, M, h1, h2, h3, h4, h5, h6, h7⟩ := h
  exact ⟨aR, cR, aM, cM, rs, M, h1, h2, h3, h4, h5, h6.base hg.size, grown_trans hg h7⟩

def LeastGPost (δ : Nat → Nat → Nat) (m : Nat → Bool) (n l S : Nat) (w : World) (E : Ending) (w' : World) : Prop :=
  ∃ v, E = .returned (.tuple #[v, .int .i64 0]) ∧ LeastPost δ m n l S w (.returned v) w'
def LeastBPost (y : Int) (w : World) (E : Ending) (w' : World) : Prop :=
  E = .returned (.tuple #[.agg #[.int .i64 0, .int .i64 0, .slice none 0 0, .slice none 0 0], .int .i64 y]) ∧ w.grownBy w' none

/-- The box of what came in, and that of what goes out. -/
theorem two_boxes (w : World) (o : Obj) (o' : Array Value) (t : TypeId) : ∃ W1, W1 = (w.alloc o).alloc (.cells o' t) ∧ W1.heap.size = w.heap.size + 2 ∧ w.grownBy W1 none ∧ W1.heap[w.heap.size + 1]? = some (.cells o' t (0, 0)) :=
  ⟨_, rfl, by simp, grown_trans (grown_alloc _ _) (grown_alloc _ _), by have := heap_alloc_new (w.alloc o) (.cells o' t); simpa using this⟩

end Go.Proofs.Yticmfgclkepgoaa

namespace Go.Proofs.Yticmfgclkepgoaa
open Go.RowKit
set_option linter.unusedVariables false

set_option maxHeartbeats 1600000 in
set_option maxRecDepth 100000 in
theorem leastE_bad (L S : Int) (R : List (List Int)) (M : List Int) (a a' : Option Addr) (c c' : Nat) (w : World) (h : DetAt w ⟨L, S, R, M⟩ a a') (hb : checkF ⟨L, S, R, M⟩ ≠ 0) :
    Calls Try.prog 15 #[.agg #[.int .i64 L, .int .i64 S, .slice a R.length c, .slice a' M.length c']] w (LeastBPost (checkF ⟨L, S, R, M⟩) w) := by
  have HC : Hid (∀ W, w.grownBy W none → Calls Try.prog 21 #[.agg #[.int .i64 L, .int .i64 S, .slice a R.length c, .slice a' M.length c']] W fun e w' => e = .returned (.int .i64 (checkF ⟨L, S, R, M⟩)) ∧ W.grownBy w' none) := fun W hW => check_any L S R M a a' c c' W (h.grown hW)
  obtain ⟨y, hy⟩ : ∃ y, checkF ⟨L, S, R, M⟩ = y := ⟨_, rfl⟩
  rw [hy] at HC hb ⊢
  have hy' : (y != 0) = true := by simpa using hb
  have hy'' : (y == 0) = false := by simpa using hb
  obtain ⟨W1, hW1, hs1, g1, k1⟩ := two_boxes w (.cells #[.int .i64 L, .int .i64 S, .slice a R.length c, .slice a' M.length c'] 25) #[.int .i64 0, .int .i64 0, .slice none 0 0, .slice none 0 0] 25
  have HW1 : Hid (W1 = _) := hW1
  have HS1 : Hid (W1.heap.size = w.heap.size + 2) := hs1
  have G1 : Hid (w.grownBy W1 none) := g1
  have K1 : Hid _ := k1
  clear hy h hb hW1 hs1 g1 k1
  go_enter Try.func15, Try.ntmps15
  go_wp2_with fail
  rw [← HW1.out]
  refine (HC.out _ G1.out).mono ?_
  rintro e w2 ⟨rfl, hg2⟩
  have K2 : Hid (w2.heap[w.heap.size + 1]? = some (.cells #[.int .i64 0, .int .i64 0, .slice none 0 0, .slice none 0 0] 25 (0, 0))) := (hg2.block _ (by rw [HS1.out]; omega) (by simp)).trans K1.out
  have G2 : Hid (w.grownBy w2 none) := grown_trans G1.out hg2
  obtain ⟨r0, r1, r2, r3, rz⟩ := block_cells K2.out
  have rz0 := rz 0
  have rz1 := rz 1
  have rz2 := rz 2
  have rz3 := rz 3
  obtain ⟨W9, hW9, hg9, q0, q1, q2, q3⟩ := det_store K2.out (.int .i64 0) (.int .i64 0) (.slice none 0 0) (.slice none 0 0)
  have G9 : Hid (w.grownBy W9 none) := grown_new G2.out hg9 (by omega)
  clear hg2 rz hg9
  go_wp2_with fail
  rw [← hW9]
  exact bodyPost_ret (v := .tuple #[.agg #[.int .i64 0, .int .i64 0, .slice none 0 0, .slice none 0 0], .int .i64 y]) (by simp [results, Try.results15, go_sem, q0, q1, q2, q3]) rfl ⟨rfl, G9.out⟩

set_option maxHeartbeats 1600000 in
set_option maxRecDepth 100000 in
theorem leastE_good (L S : Int) (R : List (List Int)) (M : List Int) (a a' : Option Addr) (c c' : Nat) (w : World) (h : DetAt w ⟨L, S, R, M⟩ a a') (hG : Good ⟨L, S, R, M⟩) :
    Calls Try.prog 15 #[.agg #[.int .i64 L, .int .i64 S, .slice a R.length c, .slice a' M.length c']] w (LeastGPost (Dfa.nx ⟨L, S, R, M⟩) (Dfa.mk1 ⟨L, S, R, M⟩) R.length L.toNat S.toNat w) := by
  have HC : Hid (∀ W, w.grownBy W none → Calls Try.prog 21 #[.agg #[.int .i64 L, .int .i64 S, .slice a R.length c, .slice a' M.length c']] W fun e w' => e = .returned (.int .i64 0) ∧ W.grownBy w' none) := fun W hW => by
    have := check_any L S R M a a' c c' W (h.grown hW)
    rw [checkF_good hG] at this
    exact this
  obtain ⟨W1, hW1, hs1, g1, k1⟩ := two_boxes w (.cells #[.int .i64 L, .int .i64 S, .slice a R.length c, .slice a' M.length c'] 25) #[.int .i64 0, .int .i64 0, .slice none 0 0, .slice none 0 0] 25
  have HW1 : Hid (W1 = _) := hW1
  have HS1 : Hid (W1.heap.size = w.heap.size + 2) := hs1
  have G1 : Hid (w.grownBy W1 none) := g1
  have K1 : Hid _ := k1
  have Bx : Hid (∀ W, W1.grownBy W none → W.cell? ⟨w.heap.size, 0, none⟩ = some (.int .i64 L) ∧ W.cell? ⟨w.heap.size, 1, none⟩ = some (.int .i64 S) ∧ W.cell? ⟨w.heap.size, 2, none⟩ = some (.slice a R.length c) ∧ W.cell? ⟨w.heap.size, 3, none⟩ = some (.slice a' M.length c')) := fun W hW => box4 (w := w) (grown_trans (grown_alloc _ _) (hW1 ▸ hW))
  obtain ⟨δ, hδ⟩ : ∃ δ, Dfa.nx ⟨L, S, R, M⟩ = δ := ⟨_, rfl⟩
  obtain ⟨mk, hmk⟩ : ∃ mk, Dfa.mk1 ⟨L, S, R, M⟩ = mk := ⟨_, rfl⟩
  have HL : Hid (∀ W, w.grownBy W none → Calls Try.prog 22 #[.agg #[.int .i64 L, .int .i64 S, .slice a R.length c, .slice a' M.length c']] W (LeastPost δ mk R.length L.toNat S.toNat W)) := fun W hW => by rw [← hδ, ← hmk]; exact leastP_any L S R M a a' c c' W (h.grown hW) hG
  rw [hδ, hmk]
  clear h hG hW1 hs1 g1 k1 hδ hmk
  generalize L.toNat = l at *
  generalize S.toNat = s0 at *
  go_enter Try.func15, Try.ntmps15
  go_wp2_with fail
  rw [← HW1.out]
  refine (HC.out _ G1.out).mono ?_
  rintro e w2 ⟨rfl, hg2⟩
  obtain ⟨b0, b1, b2, b3⟩ := Bx.out _ hg2
  have K2 : Hid (w2.heap[w.heap.size + 1]? = some (.cells #[.int .i64 0, .int .i64 0, .slice none 0 0, .slice none 0 0] 25 (0, 0))) := (hg2.block _ (by rw [HS1.out]; omega) (by simp)).trans K1.out
  have HS2 : Hid (w.heap.size + 2 ≤ w2.heap.size) := by show _ ≤ _; rw [← HS1.out]; exact hg2.size
  have G2 : Hid (w.grownBy w2 none) := grown_trans G1.out hg2
  clear hg2
  go_wp2_with fail
  refine (HL.out _ G2.out).mono ?_
  rintro E w3 ⟨aR, cR, aM, cM, rs, M', rfl, h2, h3, h4, h5, h6, h7⟩
  have K3 : Hid (w3.heap[w.heap.size + 1]? = some (.cells #[.int .i64 0, .int .i64 0, .slice none 0 0, .slice none 0 0] 25 (0, 0))) := (h7.block _ (by have := HS2.out; omega) (by simp)).trans K2.out
  obtain ⟨r0, r1, r2, r3, rz⟩ := block_cells K3.out
  have rz0 := rz 0
  have rz1 := rz 1
  have rz2 := rz 2
  have rz3 := rz 3
  obtain ⟨W9, hW9, hg9, q0, q1, q2, q3⟩ := det_store K3.out (.int .i64 (l : Int)) (.int .i64 0) (.slice aR rs.length cR) (.slice aM M'.length cM)
  have Fin : Hid (LeastPost δ mk R.length l s0 w (.returned (.agg #[.int .i64 l, .int .i64 0, .slice aR rs.length cR, .slice aM M'.length cM])) W9) :=
    ⟨aR, cR, aM, cM, rs, M', rfl, h2, h3, h4, h5, (h6.below hg9 (by have := HS2.out; omega)).base (by have := HS2.out; omega), grown_new (grown_trans G2.out h7) hg9 (by omega)⟩
  clear h2 h3 h4 h5 h6 h7 hg9 rz b0 b1 b2 b3
  generalize rs.length = nr at *
  generalize M'.length = nm at *
  go_wp2_with fail
  rw [← hW9]
  exact bodyPost_ret (v := .tuple #[.agg #[.int .i64 l, .int .i64 0, .slice aR nr cR, .slice aM nm cM], .int .i64 0]) (by simp [results, Try.results15, go_sem, q0, q1, q2, q3]) rfl ⟨_, rfl, Fin.out⟩

end Go.Proofs.Yticmfgclkepgoaa
