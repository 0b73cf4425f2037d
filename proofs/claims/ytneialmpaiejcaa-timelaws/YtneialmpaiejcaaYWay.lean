/- The program's newWay: a lasso laid out. -/
import Derived.Test.YtneialmpaiejcaaYConcat
import Derived.Test.YtneialmpaiejcaaXLeaf
import Derived.Test.YtneialmpaiejcaaULasV
import Derived.Deep.RegionHeld3
namespace Go.Proofs.Ytneialmpaiejcaa
open Go.RowKit Go.Shelf
set_option linter.unusedVariables false
set_option linter.unusedSimpArgs false

/-- What newWay leaves behind. -/
def NewW (us vs : List Int) (w : World) (e : Ending) (w' : World) : Prop := ∃ g cap, e = .returned (.agg #[.slice (some ⟨g, 0, none⟩) (us.length + vs.length) cap, .int .i64 (us.length : Int)]) ∧ (∀ k, k < us.length + vs.length → w'.cell? ⟨g, k, none⟩ = some (.int .i64 ((us ++ vs).getD k 0))) ∧ w.grownBy w' none

theorem way_two (w : World) (u v : Value) : ∃ W, W = (w.alloc (.cells #[u, v] 24)).alloc (.cells #[.slice none 0 0, .int .i64 0] 39) ∧ w.grownBy W none ∧ W.heap.size = w.heap.size + 2 ∧ W.heap[w.heap.size + 1]? = some (.cells #[.slice none 0 0, .int .i64 0] 39 (0, 0)) ∧ ∀ W', W.grownBy W' none → W'.cell? ⟨w.heap.size, 0, none⟩ = some u ∧ W'.cell? ⟨w.heap.size, 1, none⟩ = some v := by
  refine ⟨_, rfl, grown_trans (grown_alloc _ _) (grown_alloc _ _), by simp, ?_, fun W' h => ?_⟩
  · have := heap_alloc_new (w.alloc (.cells #[u, v] 24)) (.cells #[.slice none 0 0, .int .i64 0] 39)
    rwa [World.size_alloc] at this
  · have hb := heap_alloc_new w (.cells #[u, v] 24)
    have hc : ∀ k x, #[u, v][k]? = some x → W'.cell? ⟨w.heap.size, k, none⟩ = some x := fun k x hx => (grown_trans (grown_alloc _ _) h).cell (by rw [cell_of_row _ _ k _ _ (0, 0) hb]; exact hx) (by simp)
    exact ⟨hc 0 _ rfl, hc 1 _ rfl⟩

set_option maxHeartbeats 3200000 in
set_option maxRecDepth 100000 in
theorem newWay_any (us vs : List Int) (ah al : Option Addr) (ch cl : Nat) (w : World) (hu : Ints w ah us) (hv : Ints w al vs) (hlu : us.length ≤ 60) (hlv : vs.length ≤ 60) (h0 : 0 < vs.length) :
    Calls Try.prog 9 #[lasV ah us.length ch al vs.length cl] w (NewW us vs w) := by
  obtain ⟨W2, hW2, g2, s2, b2, bx⟩ := way_two w (.slice ah us.length ch) (.slice al vs.length cl)
  have HW2 : Hid (W2 = (w.alloc (.cells #[.slice ah us.length ch, .slice al vs.length cl] 24)).alloc (.cells #[.slice none 0 0, .int .i64 0] 39)) := hW2
  have HC : Hid (∀ W', W2.grownBy W' none → Calls Try.prog 18 #[.slice (some ⟨W'.heap.size, 0, none⟩) 2 2] (W'.alloc (.cells #[.slice ah us.length ch, .slice al vs.length cl] 22)) fun e w' => ∃ g cap, e = .returned (.slice (some ⟨g, 0, none⟩) (us.length + vs.length) cap) ∧ (∀ k, k < us.length + vs.length → w'.cell? ⟨g, k, none⟩ = some (.int .i64 ((us ++ vs).getD k 0))) ∧ W'.grownBy w' none) := fun W' h => by
    have hb := heap_alloc_new W' (.cells #[.slice ah us.length ch, .slice al vs.length cl] 22)
    have hg := grown_trans g2 (grown_trans h (grown_alloc W' (.cells #[.slice ah us.length ch, .slice al vs.length cl] 22)))
    refine (concat_any us vs ah al ch cl W'.heap.size _ (hu.grown hg) (hv.grown hg) hlu hlv h0 (by rw [cell_of_row _ _ 0 _ _ (0, 0) hb]; rfl) (by rw [cell_of_row _ _ 1 _ _ (0, 0) hb]; rfl)).mono ?_
    rintro e w' ⟨g, cap, h1, h2, h3⟩
    exact ⟨g, cap, h1, h2, grown_trans (grown_alloc _ _) h3⟩
  have SK : Hid (∀ W', W2.grownBy W' none → W'.cell? ⟨w.heap.size, 0, none⟩ = some (.slice ah us.length ch) ∧ W'.cell? ⟨w.heap.size, 1, none⟩ = some (.slice al vs.length cl)) := bx
  have B2 : Hid (W2.heap[w.heap.size + 1]? = some (.cells #[.slice none 0 0, .int .i64 0] 39 (0, 0))) := b2
  have G2 : Hid (w.grownBy W2 none) := g2
  have S2 : Hid (W2.heap.size = w.heap.size + 2) := s2
  have FIN : Hid (∀ (W' : World) (g cap : Nat), (∀ k, k < us.length + vs.length → W'.cell? ⟨g, k, none⟩ = some (.int .i64 ((us ++ vs).getD k 0))) → W2.grownBy W' none → W'.cell? ⟨w.heap.size + 1, 0, none⟩ = some (.slice none 0 0) ∧ W'.cell? ⟨w.heap.size + 1, 1, none⟩ = some (.int .i64 0) ∧ W'.frozen? ⟨w.heap.size + 1, 0, none⟩ = false ∧ W'.frozen? ⟨w.heap.size + 1, 1, none⟩ = false) := fun W' g cap _ h => by
    have hb : W'.heap[w.heap.size + 1]? = some (.cells #[.slice none 0 0, .int .i64 0] 39 (0, 0)) := (h.block _ (by omega) (by simp)).trans b2
    exact ⟨by rw [cell_of_row _ _ 0 _ _ (0, 0) hb]; rfl, by rw [cell_of_row _ _ 1 _ _ (0, 0) hb]; rfl, frozen_of_row _ _ 0 _ _ hb, frozen_of_row _ _ 1 _ _ hb⟩
  have SK8 : Hid (∀ (W' : World) (x y : Value), W2.grownBy W' none → ((W'.setCell ⟨w.heap.size + 1, 0, none⟩ x).setCell ⟨w.heap.size + 1, 1, none⟩ y).cell? ⟨w.heap.size, 0, none⟩ = some (.slice ah us.length ch) ∧ ((W'.setCell ⟨w.heap.size + 1, 0, none⟩ x).setCell ⟨w.heap.size + 1, 1, none⟩ y).cell? ⟨w.heap.size, 1, none⟩ = some (.slice al vs.length cl)) := fun W' x y h => by
    have hg : W'.grownBy ((W'.setCell ⟨w.heap.size + 1, 0, none⟩ x).setCell ⟨w.heap.size + 1, 1, none⟩ y) (some (w.heap.size + 1)) := grown_trans (grown_set _ _ _) (grown_set _ _ _)
    exact ⟨hg.cell (bx W' h).1 (by simp), hg.cell (bx W' h).2 (by simp)⟩
  have END : Hid (∀ (W' : World) (g cap : Nat), (∀ k, k < us.length + vs.length → W'.cell? ⟨g, k, none⟩ = some (.int .i64 ((us ++ vs).getD k 0))) → W2.grownBy W' none → ((W'.setCell ⟨w.heap.size + 1, 0, none⟩ (.slice (some ⟨g, 0, none⟩) (us.length + vs.length) cap)).setCell ⟨w.heap.size + 1, 1, none⟩ (.int .i64 (us.length : Int))).cell? ⟨w.heap.size + 1, 0, none⟩ = some (.slice (some ⟨g, 0, none⟩) (us.length + vs.length) cap) ∧ ((W'.setCell ⟨w.heap.size + 1, 0, none⟩ (.slice (some ⟨g, 0, none⟩) (us.length + vs.length) cap)).setCell ⟨w.heap.size + 1, 1, none⟩ (.int .i64 (us.length : Int))).cell? ⟨w.heap.size + 1, 1, none⟩ = some (.int .i64 (us.length : Int)) ∧ NewW us vs w (.returned (.agg #[.slice (some ⟨g, 0, none⟩) (us.length + vs.length) cap, .int .i64 (us.length : Int)])) ((W'.setCell ⟨w.heap.size + 1, 0, none⟩ (.slice (some ⟨g, 0, none⟩) (us.length + vs.length) cap)).setCell ⟨w.heap.size + 1, 1, none⟩ (.int .i64 (us.length : Int)))) := fun W' g cap hc h => by
    have hb : W'.heap[w.heap.size + 1]? = some (.cells #[.slice none 0 0, .int .i64 0] 39 (0, 0)) := (h.block _ (by omega) (by simp)).trans b2
    have hb2 : ((W'.setCell ⟨w.heap.size + 1, 0, none⟩ (.slice (some ⟨g, 0, none⟩) (us.length + vs.length) cap)).setCell ⟨w.heap.size + 1, 1, none⟩ (.int .i64 (us.length : Int))).heap[w.heap.size + 1]? = some (.cells #[.slice (some ⟨g, 0, none⟩) (us.length + vs.length) cap, .int .i64 (us.length : Int)] 39 (0, 0)) := by rw [heap_setCell_same _ (w.heap.size + 1) 1 _ 39 _ (heap_setCell_same _ (w.heap.size + 1) 0 _ 39 _ hb)]; rfl
    have hg : W'.grownBy ((W'.setCell ⟨w.heap.size + 1, 0, none⟩ (.slice (some ⟨g, 0, none⟩) (us.length + vs.length) cap)).setCell ⟨w.heap.size + 1, 1, none⟩ (.int .i64 (us.length : Int))) (some (w.heap.size + 1)) := grown_trans (grown_set _ _ _) (grown_set _ _ _)
    refine ⟨by rw [cell_of_row _ _ 0 _ _ (0, 0) hb2]; rfl, by rw [cell_of_row _ _ 1 _ _ (0, 0) hb2]; rfl, g, cap, rfl, fun k hk => hg.cell (hc k hk) ?_, grown_new (grown_trans g2 h) hg (by omega)⟩
    intro e
    have e' : g = w.heap.size + 1 := by simpa using e
    subst e'
    have h1 := hc 0 (by omega)
    rw [cell_of_row _ _ 0 _ _ (0, 0) hb] at h1
    cases h1
  clear hu hv hW2 bx b2 g2 s2
  go_enter Try.func9, Try.ntmps9
  go_wp2_with fail
  rw [← HW2.out]
  go_region_held3 (fun W' => W'.cell? ⟨w.heap.size, 0, none⟩ = some (.slice ah us.length ch) ∧ W'.cell? ⟨w.heap.size, 1, none⟩ = some (.slice al vs.length cl)) (first | with_reducible exact SK.out _ (grown_drew (grown_refl _ _)) | with_reducible exact SK.out _ (grown_trans (grown_drew (grown_refl _ _)) (grown_alloc _ _)) | with_reducible exact SK.out _ G5.out | with_reducible exact SK8.out _ _ _ G5.out)
    (first
    | (go_at_call 18; refine (HC.out _ (grown_drew (grown_refl _ _))).mono ?_; rintro e w5 ⟨g, cap, rfl, hc5, hg5⟩; have C5 : Hid (∀ k, k < us.length + vs.length → w5.cell? ⟨g, k, none⟩ = some (.int .i64 ((us ++ vs).getD k 0))) := hc5; have G5 : Hid (W2.grownBy w5 none) := grown_trans (grown_drew (grown_refl _ _)) hg5; obtain ⟨y0, y1, y2, y3⟩ := FIN.out w5 g cap hc5 G5.out; clear hc5 hg5))
  obtain ⟨k0, k1, k2⟩ := END.out w5 g cap C5.out G5.out
  generalize ((w5.setCell ⟨w.heap.size + 1, 0, none⟩ (.slice (some ⟨g, 0, none⟩) (us.length + vs.length) cap)).setCell ⟨w.heap.size + 1, 1, none⟩ (.int .i64 (us.length : Int))) = W8 at k0 k1 k2 ⊢
  go_wp2_with fail
  exact bodyPost_ret (v := .agg #[.slice (some ⟨g, 0, none⟩) (us.length + vs.length) cap, .int .i64 (us.length : Int)]) (by simp [results, Try.results9, go_sem, k0, k1]) rfl k2

end Go.Proofs.Ytneialmpaiejcaa
