/- The next word, by the reference. -/
import Derived.Test.YticmfgclkepgoaaMApp
import Derived.Test.YticmfgclkepgoaaTls
namespace Go.Proofs.Yticmfgclkepgoaa
open Go.RowKit
set_option linter.unusedVariables false
set_option linter.unusedSimpArgs false

/-- All letters lie below L. -/
def LetI (L : Int) (z : List Int) : Prop := ∀ k, k < z.length → 0 ≤ z.getD k 0 ∧ z.getD k 0 < L
theorem LetI.set {L : Int} {z : List Int} (h : LetI L z) (j : Nat) {x : Int} (h0 : 0 ≤ x) (h1 : x < L) : LetI L (z.set j x) := by
  intro k hk
  rw [List.length_set] at hk
  have := h k hk
  by_cases e : j = k
  · subst e
    rw [List.getD_eq_getElem?_getD, List.getElem?_set_self hk]
    exact ⟨h0, h1⟩
  · rw [List.getD_eq_getElem?_getD, List.getElem?_set_ne e, ← List.getD_eq_getElem?_getD]
    exact this
theorem LetI.snoc {L : Int} {z : List Int} (h : LetI L z) {x : Int} (h0 : 0 ≤ x) (h1 : x < L) : LetI L (z ++ [x]) := by
  intro k hk
  rw [List.length_append] at hk
  by_cases e : k < z.length
  · have := h k e
    rw [List.getD_eq_getElem?_getD, List.getElem?_append_left e, ← List.getD_eq_getElem?_getD]
    exact this
  · have : k = z.length := by simp at hk; omega
    subst this
    simp [List.getD]
    exact ⟨h0, h1⟩
/-- A row of one's own. -/
theorem ownR_owns {B : Nat} {w : World} {a : Option Addr} {c : Nat} {xs : List Int} (h : w.ownsRow B 3 1 (.slice a xs.length c) xs.length (vals xs)) : Owns B w [(3, .slice a xs.length c, vals xs)] :=
  ⟨fun it hm => by
    rw [List.mem_singleton] at hm
    subst hm
    exact ⟨by simp only [vals_len]; exact h, a, c, by simp only [vals_len]⟩, List.pairwise_singleton _ _⟩
theorem ownR_frame {B : Nat} {w0 w w' : World} {a : Option Addr} {n c : Nat} {ys : List Value} (h : w.ownsRow B 3 1 (.slice a n c) n ys) (h0 : w0.heap.size ≤ B) (h1 : w0.grownBy w none) (h2 : w.grownBy w' (Value.slice a n c).ownBlock) : w0.grownBy w' none := by
  cases hb : (Value.slice a n c).ownBlock with
  | none => rw [hb] at h2; exact grown_trans h1 h2
  | some g =>
    rw [hb] at h2
    have := (World.ownsRow.lt h g hb).1
    exact grown_new h1 h2 (by omega)
/-- What the next word leaves behind. -/
def NextPost (L : Int) (n : Nat) (w : World) (e : Ending) (w' : World) : Prop := ∃ a c z, e = .returned (.slice a (List.length z) c) ∧ Ints w' a z ∧ LetI L z ∧ z.length ≤ n + 1 ∧ w.grownBy w' none

attribute [local go_sem ↓] appM_fold in
set_option maxHeartbeats 3200000 in
set_option maxRecDepth 100000 in
theorem next_any (L : Int) (a : Option Addr) (c : Nat) (z : List Int) (w : World) (h1 : 1 ≤ L) (h4 : L ≤ 4) (hz : Ints w a z) (hl : LetI L z) (hn : z.length ≤ 1000) :
    Calls Try.prog 11 #[.int .i64 L, .slice a z.length c] w (NextPost L z.length w) := by
  have O0 : (w.alloc (.cells #[] 3)).ownsRow w.heap.size 3 1 (.slice (some ⟨w.heap.size, 0, none⟩) ([] : List Int).length 0) ([] : List Int).length (vals []) := ⟨rfl, .inr ⟨w.heap.size, 0, #[], rfl, Nat.le_refl _, heap_alloc_new w _, by simp, by unfold maxLen; omega, rfl, by simp [vals]⟩⟩
  obtain ⟨p5, c5, w5, hrun5, ho5, hg5⟩ := appM_any (c := c) O0 (by simp) (hz.grown (grown_alloc w (.cells #[] 3))) (by simp only [List.length_nil]; omega)
  have g5 : w.grownBy w5 none := ownR_frame O0 (Nat.le_refl _) (grown_alloc _ _) hg5
  simp only [List.length_nil, Nat.zero_add, List.nil_append] at hrun5 ho5
  have O5 : Hid (Owns w.heap.size w5 [(3, .slice p5 z.length c5, vals z)]) := ownR_owns ho5
  have G5 : Hid (w.grownBy w5 none) := g5
  obtain ⟨n, hnn⟩ : ∃ n, z.length = n := ⟨_, rfl⟩
  have HZ : Hid (z.length = n ∧ LetI L z) := ⟨hnn, hl⟩
  rw [hnn] at hrun5 O5 hn ⊢
  have hwl : IntKind.i64.wrap (L - 1) = L - 1 := by rw [IntKind.wrap_i64]; omega
  have hwn : IntKind.i64.wrap ((n : Int) - 1) = (n : Int) - 1 := by rw [IntKind.wrap_i64]; omega
  clear O0 ho5 hg5 g5 hz hl hnn
  go_enter Try.func11, Try.ntmps11
  go_wp2_with fail
  go_loopw [6] (fun v wr => ∃ (k : Nat) (x : Int) (y : List Int), k ≤ n ∧ x = (k : Int) - 1 ∧ v = .int .i64 x ∧ y.length = n ∧ LetI L y ∧ Owns w.heap.size wr [(3, .slice p5 n c5, vals y)] ∧ w.grownBy wr none) (fun v _ => (intOf v + 1).toNat)
  case atStart => exact ⟨n, _, z, Nat.le_refl _, rfl, rfl, HZ.out.1, HZ.out.2, O5.out, G5.out⟩
  case round =>
    clear O5 G5 HZ hwn hrun5
    obtain ⟨k, x, y, hk, hx, rfl, hyn, hyl, hO, hg⟩ := hrel
    have HY : Hid (y.length = n ∧ LetI L y) := ⟨hyn, hyl⟩
    have O : Hid (Owns w.heap.size wr [(3, .slice p5 n c5, vals y)]) := hO
    have G : Hid (w.grownBy wr none) := hg
    clear hyl hO hg
    cases k with
    | succ j =>
      obtain rfl : x = (j : Int) := by omega
      have hj0 : (0 : Int) ≤ (j : Int) := by omega
      have hjn : (j : Int) < (n : Int) := by omega
      obtain ⟨g, cap, e, hB, hgl, hfz⟩ := O.out.form (by rw [vals_len]; omega)
      simp only [Value.slice.injEq] at e
      obtain ⟨rfl, hne, rfl⟩ := e
      clear hne
      have hc := O.out.cell (vals_get (i := j) (by omega))
      have hf := hfz j
      obtain ⟨b0, b1⟩ := HY.out.2 j (by omega)
      obtain ⟨x, hxx⟩ : ∃ x, y.getD j 0 = x := ⟨_, rfl⟩
      rw [hxx] at hc b0 b1
      clear hfz hgl hB hxx hx hyn
      by_cases hlt : x < L - 1
      · have hw1 : IntKind.i64.wrap (x + 1) = x + 1 := by rw [IntKind.wrap_i64]; omega
        have O' : Hid (Owns w.heap.size (wr.setCell ⟨g, j, none⟩ (.int .i64 (x + 1))) [(3, .slice (some ⟨g, 0, none⟩) n c5, vals (y.set j (x + 1)))]) := by
          have := O.out.set (i := j) (by omega) (.int .i64 (x + 1))
          rw [vals_set] at this
          exact this
        have G' : Hid (w.grownBy (wr.setCell ⟨g, j, none⟩ (.int .i64 (x + 1))) none) := by
          refine O.out.frame (Nat.le_refl _) G.out (grown_set _ _ _)
        go_wp2_with fail
        go_ret
        exact ⟨some ⟨g, 0, none⟩, c5, y.set j (x + 1), by rw [List.length_set, HY.out.1]; rfl, O'.out.ints.2, HY.out.2.set j (by omega) (by omega), by rw [List.length_set, HY.out.1]; omega, G'.out⟩
      · have O' : Hid (Owns w.heap.size (wr.setCell ⟨g, j, none⟩ (.int .i64 0)) [(3, .slice (some ⟨g, 0, none⟩) n c5, vals (y.set j 0))]) := by
          have := O.out.set (i := j) (by omega) (.int .i64 0)
          rw [vals_set] at this
          exact this
        have G' : Hid (w.grownBy (wr.setCell ⟨g, j, none⟩ (.int .i64 0)) none) := by
          refine O.out.frame (Nat.le_refl _) G.out (grown_set _ _ _)
        have hwj : IntKind.i64.wrap ((j : Int) - 1) = (j : Int) - 1 := by rw [IntKind.wrap_i64]; omega
        go_wp2_with fail
        go_roundw
        case rel => exact ⟨j, _, y.set j 0, by omega, rfl, rfl, by rw [List.length_set, HY.out.1], HY.out.2.set j (by omega) (by omega), O'.out, G'.out⟩
        case measure => simp [intOf]
    | zero =>
      obtain rfl : x = -1 := by omega
      have I1 : Ints (wr.alloc (.cells #[.int .i64 0] 3)) (some ⟨wr.heap.size, 0, none⟩) [0] := .inr ⟨wr.heap.size, 0, rfl, fun i hi => by
        have : i = 0 := by simpa using hi
        subst this
        rw [cell_of_row _ _ 0 _ _ (0, 0) (heap_alloc_new wr _)]
        rfl⟩
      have hr0 := (O.out.kept (grown_alloc wr (.cells #[.int .i64 0] 3))).row
      rw [vals_len, HY.out.1] at hr0
      have hr : (wr.alloc (.cells #[.int .i64 0] 3)).ownsRow w.heap.size 3 1 (.slice p5 y.length c5) y.length (vals y) := by rw [HY.out.1]; exact hr0
      have g0 : w.grownBy (wr.alloc (.cells #[.int .i64 0] 3)) none := grown_trans G.out (grown_alloc _ _)
      obtain ⟨p6, c6, w6, hrun6, ho6, hg6⟩ := appM_any (c := 1) hr g0.size I1 (by rw [HY.out.1]; simp only [List.length_singleton]; omega)
      have G6 : Hid (w.grownBy w6 none) := ownR_frame hr (Nat.le_refl _) g0 hg6
      have I6 : Hid (Ints w6 p6 (y ++ [0])) := (ownR_owns ho6).ints.2
      simp only [List.length_singleton, HY.out.1] at hrun6
      clear hr0 hr g0 I1 ho6 hg6 hx
      go_wp2_with fail
      go_ret
      exact ⟨p6, c6, y ++ [0], by rw [List.length_append, HY.out.1]; rfl, I6.out, HY.out.2.snoc (by omega) (by omega), by rw [List.length_append, HY.out.1]; simp, G6.out⟩

end Go.Proofs.Yticmfgclkepgoaa
