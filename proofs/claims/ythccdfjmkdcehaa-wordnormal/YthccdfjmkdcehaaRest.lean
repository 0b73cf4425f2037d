/- The shortest lasso of what is left behind n letters, and of the whole word, as the program answers them. -/
import Derived.Test.YthccdfjmkdcehaaWithout
namespace Go.Proofs.Ythccdfjmkdcehaa
open Go.RowKit
set_option linter.unusedVariables false

/-- The letters of an infinite word from a place on. -/
def pieceOf (f : Nat → Int) (s n : Nat) : List Int := (List.range n).map fun i => f (s + i)
theorem length_pieceOf (f : Nat → Int) (s n : Nat) : (pieceOf f s n).length = n := by simp [pieceOf]
theorem getD_pieceOf (f : Nat → Int) (s n i : Nat) (hi : i < n) : (pieceOf f s n).getD i 0 = f (s + i) := by simp [pieceOf, hi]
theorem pieceF_of {h l : List Int} {f : Nat → Int} (e : ∀ m, letF h l m = f m) (s n : Nat) : pieceF h l s n = pieceOf f s n := List.map_congr_left fun i _ => e _

/-- The shortest lasso of f, in new memory: the head's k numbers in the block g, the loop's p in g'. -/
structure IsShort (f : Nat → Int) (B : Nat) (W : World) (p k g g' : Nat) : Prop where
  sh : Shortest f k p
  k60 : k ≤ 60
  p60 : p ≤ 60
  head : Own B W (.slice (some ⟨g, 0, none⟩) k k) (pieceOf f 0 k)
  loop : Own B W (.slice (some ⟨g', 0, none⟩) p p) (pieceOf f k p)

theorem IsShort.later {f : Nat → Int} {B : Nat} {W W' : World} {p k g g' : Nat} (h : IsShort f B W p k g g') (hb : Below W.heap.size W W') : IsShort f B W' p k g g' := ⟨h.sh, h.k60, h.p60, h.head.later hb, h.loop.later hb⟩
theorem IsShort.mono {f : Nat → Int} {B B' : Nat} {W : World} {p k g g' : Nat} (h : IsShort f B W p k g g') (hb : B' ≤ B) : IsShort f B' W p k g g' := ⟨h.sh, h.k60, h.p60, h.head.mono hb, h.loop.mono hb⟩
theorem IsShort.setOther {f : Nat → Int} {B : Nat} {W : World} {p k g g' : Nat} (h : IsShort f B W p k g g') {b o : Nat} (h1 : g ≠ b) (h2 : g' ≠ b) (u : Value) : IsShort f B (W.setCell ⟨b, o, none⟩ u) p k g g' := ⟨h.sh, h.k60, h.p60, h.head.setOther h1 u, h.loop.setOther h2 u⟩

theorem isShort_of {h l : List Int} {f : Nat → Int} {B : Nat} {W : World} {p k g g' : Nat} (e : ∀ m, letF h l m = f m) (h60 : h.length ≤ 60) (l60 : l.length ≤ 60) (h0 : 0 < l.length) (hp : Per l p) (hr : Rep h l p k)
    (o1 : Own B W (.slice (some ⟨g, 0, none⟩) k k) (pieceF h l 0 k)) (o2 : Own B W (.slice (some ⟨g', 0, none⟩) p p) (pieceF h l k p)) : IsShort f B W p k g g' := by
  have hs := shortest_of h0 hp hr
  rw [funext e] at hs
  rw [pieceF_of e] at o1 o2
  exact ⟨hs, by have := hr.le; omega, by have := hp.le; omega, o1, o2⟩

theorem short_end {f : Nat → Int} {w W w3 : World} {B p k g g' : Nat} {u u' : Value} (hB : Below B w W) (hs : B + 1 < W.heap.size) (hi : IsShort f W.heap.size w3 p k g g') (hb3 : Below W.heap.size W w3) :
    IsShort f B ((w3.setCell ⟨B + 1, 0, none⟩ u).setCell ⟨B + 1, 1, none⟩ u') p k g g' ∧ Below B w ((w3.setCell ⟨B + 1, 0, none⟩ u).setCell ⟨B + 1, 1, none⟩ u') := by
  have l1 := hi.head.lt
  have l2 := hi.loop.lt
  exact ⟨(((hi.mono (by omega)).setOther (by omega) (by omega) u).setOther (by omega) (by omega) u'), ((hB.trans (hb3.mono (by omega))).setCell (by simp) u).setCell (by simp) u'⟩

set_option maxHeartbeats 1000000 in
theorem normal_ok (a a' : Option Addr) (c c' : Nat) (h l : List Int) (w : World) (hh : Ints w a h) (hl : Ints w a' l) (hm : h.length ≤ maxLen) (hm' : l.length ≤ maxLen) (hok : lassoF 4 h l = 0) :
    Calls Try.prog 18 #[.agg #[.slice a h.length c, .slice a' l.length c']] w fun e w' => ∃ p k g g' : Nat, e = .returned (.tuple #[.agg #[.slice (some ⟨g, 0, none⟩) k k, .slice (some ⟨g', 0, none⟩) p p], .int .i64 0]) ∧ IsShort (letF h l) w.heap.size w' p k g g' ∧ Below w.heap.size w w' := by
  obtain ⟨g1, g2, g3⟩ := lassoF_ok hok
  have H1 : Hid (∀ W, Below w.heap.size w W → Calls Try.prog 11 #[.int .i64 4, .agg #[.slice a h.length c, .slice a' l.length c']] W fun e w' => e = .returned (.int .i64 0) ∧ Below W.heap.size W w') := fun W hW => hok ▸ lasso_any 4 a a' c c' h l W (hh.later hW) (hl.later hW) hm hm'
  have H2 : Hid (∀ W, Below w.heap.size w W → Calls Try.prog 27 #[.agg #[.slice a h.length c, .slice a' l.length c']] W fun e w' => ∃ p k g g' : Nat, e = .returned (.agg #[.slice (some ⟨g, 0, none⟩) k k, .slice (some ⟨g', 0, none⟩) p p]) ∧ IsShort (letF h l) W.heap.size w' p k g g' ∧ Below W.heap.size W w') := fun W hW =>
    (shortest_any a a' c c' h l W (hh.later hW) (hl.later hW) g1 g2 g3).mono (R' := fun e w' => ∃ p k g g' : Nat, e = .returned (.agg #[.slice (some ⟨g, 0, none⟩) k k, .slice (some ⟨g', 0, none⟩) p p]) ∧ IsShort (letF h l) W.heap.size w' p k g g' ∧ Below W.heap.size W w')
      (fun e w' ⟨p, k, g, g', he, hp, hr, o1, o2, hb⟩ => ⟨p, k, g, g', he, isShort_of (fun _ => rfl) g1 g2 g3 hp hr o1 o2, hb⟩)
  clear hh hl
  have hb0 : ∀ o o', Below w.heap.size w ((w.alloc o).alloc o') := fun o o' => ((Below.refl _ _).alloc (Nat.le_refl _) o).alloc (by simp) o'
  go_enter Try.func18, Try.ntmps18
  go_wp2_with fail
  refine (H1.out _ (hb0 _ _)).mono ?_
  rintro e w1 ⟨rfl, hb1⟩
  have c0 : w1.cell? ⟨w.heap.size, 0, none⟩ = some (.slice a h.length c) := by rw [hb1.cell (by simp; omega)]; simp
  have c1 : w1.cell? ⟨w.heap.size, 1, none⟩ = some (.slice a' l.length c') := by rw [hb1.cell (by simp; omega)]; simp
  have r0 : w1.cell? ⟨w.heap.size + 1, 0, none⟩ = some (.slice none 0 0) := by rw [hb1.cell (by simp)]; simp
  have r1 : w1.cell? ⟨w.heap.size + 1, 1, none⟩ = some (.slice none 0 0) := by rw [hb1.cell (by simp)]; simp
  have f0 : w1.frozen? ⟨w.heap.size + 1, 0, none⟩ = false := by rw [hb1.frozen (by simp)]; simp
  have f1 : w1.frozen? ⟨w.heap.size + 1, 1, none⟩ = false := by rw [hb1.frozen (by simp)]; simp
  have hs1 : w.heap.size + 1 < w1.heap.size := by have := hb1.size; simp at this; omega
  have HB : Hid (Below w.heap.size w w1) := (hb0 _ _).trans (hb1.mono (by simp; omega))
  clear hb1
  go_wp2_with fail
  refine (H2.out _ HB.out).mono ?_
  rintro e w2 ⟨p, k, g, g', rfl, hi, hb2⟩
  have r02 : w2.cell? ⟨w.heap.size + 1, 0, none⟩ = some (.slice none 0 0) := cell_later hb2 r0
  have r12 : w2.cell? ⟨w.heap.size + 1, 1, none⟩ = some (.slice none 0 0) := cell_later hb2 r1
  have f02 : w2.frozen? ⟨w.heap.size + 1, 0, none⟩ = false := (hb2.frozen (by simpa using hs1)).trans f0
  have f12 : w2.frozen? ⟨w.heap.size + 1, 1, none⟩ = false := (hb2.frozen (by simpa using hs1)).trans f1
  have hs2 : w.heap.size + 1 < w2.heap.size := Nat.lt_of_lt_of_le hs1 hb2.size
  have HE : Hid (IsShort (letF h l) w.heap.size ((w2.setCell ⟨w.heap.size + 1, 0, none⟩ (.slice (some ⟨g, 0, none⟩) k k)).setCell ⟨w.heap.size + 1, 1, none⟩ (.slice (some ⟨g', 0, none⟩) p p)) p k g g' ∧ Below w.heap.size w ((w2.setCell ⟨w.heap.size + 1, 0, none⟩ (.slice (some ⟨g, 0, none⟩) k k)).setCell ⟨w.heap.size + 1, 1, none⟩ (.slice (some ⟨g', 0, none⟩) p p))) := short_end HB.out hs1 hi hb2
  clear hi hb2
  go_wp2
  have q0 : (w2.setCell ⟨w.heap.size + 1, 0, none⟩ (.slice (some ⟨g, 0, none⟩) k k)).cell? ⟨w.heap.size + 1, 0, none⟩ = some (.slice (some ⟨g, 0, none⟩) k k) := cell_set_same r02
  have q1 : ((w2.setCell ⟨w.heap.size + 1, 0, none⟩ (.slice (some ⟨g, 0, none⟩) k k)).setCell ⟨w.heap.size + 1, 1, none⟩ (.slice (some ⟨g', 0, none⟩) p p)).cell? ⟨w.heap.size + 1, 1, none⟩ = some (.slice (some ⟨g', 0, none⟩) p p) := cell_set_two r12
  exact bodyPost_ret (v := .tuple #[.agg #[.slice (some ⟨g, 0, none⟩) k k, .slice (some ⟨g', 0, none⟩) p p], .int .i64 0]) (by simp [results, Try.results18, go_sem, q0, q1]) rfl ⟨p, k, g, g', rfl, HE.out.1, HE.out.2⟩

set_option maxHeartbeats 1000000 in
theorem normal_bad (a a' : Option Addr) (c c' : Nat) (h l : List Int) (w : World) (hh : Ints w a h) (hl : Ints w a' l) (hm : h.length ≤ maxLen) (hm' : l.length ≤ maxLen) (hok : lassoF 4 h l ≠ 0) :
    Calls Try.prog 18 #[.agg #[.slice a h.length c, .slice a' l.length c']] w fun e w' => e = .returned (.tuple #[.agg #[.slice none 0 0, .slice none 0 0], .int .i64 (lassoF 4 h l)]) ∧ Below w.heap.size w w' := by
  have H1 : Hid (∀ W, Below w.heap.size w W → Calls Try.prog 11 #[.int .i64 4, .agg #[.slice a h.length c, .slice a' l.length c']] W fun e w' => e = .returned (.int .i64 (lassoF 4 h l)) ∧ Below W.heap.size W w') := fun W hW => lasso_any 4 a a' c c' h l W (hh.later hW) (hl.later hW) hm hm'
  clear hh hl
  generalize lassoF 4 h l = x at *
  have hx' : (x != 0) = true := by simpa using hok
  have hb0 : ∀ o o', Below w.heap.size w ((w.alloc o).alloc o') := fun o o' => ((Below.refl _ _).alloc (Nat.le_refl _) o).alloc (by simp) o'
  go_enter Try.func18, Try.ntmps18
  go_wp2_with fail
  refine (H1.out _ (hb0 _ _)).mono ?_
  rintro e w1 ⟨rfl, hb1⟩
  have r0 : w1.cell? ⟨w.heap.size + 1, 0, none⟩ = some (.slice none 0 0) := by rw [hb1.cell (by simp)]; simp
  have r1 : w1.cell? ⟨w.heap.size + 1, 1, none⟩ = some (.slice none 0 0) := by rw [hb1.cell (by simp)]; simp
  have f0 : w1.frozen? ⟨w.heap.size + 1, 0, none⟩ = false := by rw [hb1.frozen (by simp)]; simp
  have f1 : w1.frozen? ⟨w.heap.size + 1, 1, none⟩ = false := by rw [hb1.frozen (by simp)]; simp
  have HB : Hid (Below w.heap.size w w1) := (hb0 _ _).trans (hb1.mono (by simp; omega))
  clear hb1
  go_wp2
  have q0 : (w1.setCell ⟨w.heap.size + 1, 0, none⟩ (.slice none 0 0)).cell? ⟨w.heap.size + 1, 0, none⟩ = some (.slice none 0 0) := cell_set_same r0
  have q1 : ((w1.setCell ⟨w.heap.size + 1, 0, none⟩ (.slice none 0 0)).setCell ⟨w.heap.size + 1, 1, none⟩ (.slice none 0 0)).cell? ⟨w.heap.size + 1, 1, none⟩ = some (.slice none 0 0) := cell_set_two r1
  exact bodyPost_ret (v := .tuple #[.agg #[.slice none 0 0, .slice none 0 0], .int .i64 x]) (by simp [results, Try.results18, go_sem, q0, q1]) rfl ⟨rfl, (HB.out.setCell (by simp) _).setCell (by simp) _⟩

set_option maxHeartbeats 1000000 in
theorem rest_bad (n : Int) (a a' : Option Addr) (c c' : Nat) (h l : List Int) (w : World) (hh : Ints w a h) (hl : Ints w a' l) (hm : h.length ≤ maxLen) (hm' : l.length ≤ maxLen) (hok : placedF n h l ≠ 0) :
    Calls Try.prog 19 #[.agg #[.slice a h.length c, .slice a' l.length c'], .int .i64 n] w fun e w' => e = .returned (.tuple #[.agg #[.slice none 0 0, .slice none 0 0], .int .i64 (placedF n h l)]) ∧ Below w.heap.size w w' := by
  have H1 : Hid (∀ W, Below w.heap.size w W → Calls Try.prog 25 #[.agg #[.slice a h.length c, .slice a' l.length c'], .int .i64 n] W fun e w' => e = .returned (.int .i64 (placedF n h l)) ∧ Below W.heap.size W w') := fun W hW => placed_any n a a' c c' h l W (hh.later hW) (hl.later hW) hm hm'
  clear hh hl
  generalize placedF n h l = x at *
  have hx' : (x != 0) = true := by simpa using hok
  have hb0 : ∀ o o', Below w.heap.size w ((w.alloc o).alloc o') := fun o o' => ((Below.refl _ _).alloc (Nat.le_refl _) o).alloc (by simp) o'
  go_enter Try.func19, Try.ntmps19
  go_wp2_with fail
  refine (H1.out _ (hb0 _ _)).mono ?_
  rintro e w1 ⟨rfl, hb1⟩
  have r0 : w1.cell? ⟨w.heap.size + 1, 0, none⟩ = some (.slice none 0 0) := by rw [hb1.cell (by simp)]; simp
  have r1 : w1.cell? ⟨w.heap.size + 1, 1, none⟩ = some (.slice none 0 0) := by rw [hb1.cell (by simp)]; simp
  have f0 : w1.frozen? ⟨w.heap.size + 1, 0, none⟩ = false := by rw [hb1.frozen (by simp)]; simp
  have f1 : w1.frozen? ⟨w.heap.size + 1, 1, none⟩ = false := by rw [hb1.frozen (by simp)]; simp
  have HB : Hid (Below w.heap.size w w1) := (hb0 _ _).trans (hb1.mono (by simp; omega))
  clear hb1
  go_wp2
  have q0 : (w1.setCell ⟨w.heap.size + 1, 0, none⟩ (.slice none 0 0)).cell? ⟨w.heap.size + 1, 0, none⟩ = some (.slice none 0 0) := cell_set_same r0
  have q1 : ((w1.setCell ⟨w.heap.size + 1, 0, none⟩ (.slice none 0 0)).setCell ⟨w.heap.size + 1, 1, none⟩ (.slice none 0 0)).cell? ⟨w.heap.size + 1, 1, none⟩ = some (.slice none 0 0) := cell_set_two r1
  exact bodyPost_ret (v := .tuple #[.agg #[.slice none 0 0, .slice none 0 0], .int .i64 x]) (by simp [results, Try.results19, go_sem, q0, q1]) rfl ⟨rfl, (HB.out.setCell (by simp) _).setCell (by simp) _⟩

set_option maxHeartbeats 1000000 in
theorem rest_ok (n : Nat) (a a' : Option Addr) (c c' : Nat) (h l : List Int) (w : World) (hh : Ints w a h) (hl : Ints w a' l) (hm : h.length ≤ maxLen) (hm' : l.length ≤ maxLen) (hok : lassoF 4 h l = 0) (hc : h.length ≤ c) (hn : (n : Int) ≤ 9223372036854775807) :
    Calls Try.prog 19 #[.agg #[.slice a h.length c, .slice a' l.length c'], .int .i64 n] w fun e w' => ∃ p k g g' : Nat, e = .returned (.tuple #[.agg #[.slice (some ⟨g, 0, none⟩) k k, .slice (some ⟨g', 0, none⟩) p p], .int .i64 0]) ∧ IsShort (fun m => letF h l (n + m)) w.heap.size w' p k g g' ∧ Below w.heap.size w w' := by
  obtain ⟨g1, g2, g3⟩ := lassoF_ok hok
  have hp0 : placedF n h l = 0 := by unfold placedF; rw [if_pos hok, if_neg (by omega)]
  have H1 : Hid (∀ W, Below w.heap.size w W → Calls Try.prog 25 #[.agg #[.slice a h.length c, .slice a' l.length c'], .int .i64 n] W fun e w' => e = .returned (.int .i64 0) ∧ Below W.heap.size W w') := fun W hW => hp0 ▸ placed_any n a a' c c' h l W (hh.later hW) (hl.later hW) hm hm'
  have H2 : Hid (∀ W, Below w.heap.size w W → Calls Try.prog 30 #[.agg #[.slice a h.length c, .slice a' l.length c'], .int .i64 n] W fun e w' => ∃ v, e = .returned v ∧ Tells (fun m => letF h l (n + m)) w' v ∧ Below W.heap.size W w') := fun W hW =>
    without_any n a a' c c' h l W (hh.later hW) (hl.later hW) g1 g2 g3 hc hn
  have H3 : Hid (∀ (W : World) v, Tells (fun m => letF h l (n + m)) W v → Calls Try.prog 27 #[v] W fun e w' => ∃ p k g g' : Nat, e = .returned (.agg #[.slice (some ⟨g, 0, none⟩) k k, .slice (some ⟨g', 0, none⟩) p p]) ∧ IsShort (fun m => letF h l (n + m)) W.heap.size w' p k g g' ∧ Below W.heap.size W w') := by
    intro W v hv
    obtain ⟨b, d, h2, b', d', l2, rfl, i1, i2, k1, k2, k3, he⟩ := hv
    exact (shortest_any b b' d d' h2 l2 W i1 i2 k1 k2 k3).mono (R' := fun e w' => ∃ p k g g' : Nat, e = .returned (.agg #[.slice (some ⟨g, 0, none⟩) k k, .slice (some ⟨g', 0, none⟩) p p]) ∧ IsShort (fun m => letF h l (n + m)) W.heap.size w' p k g g' ∧ Below W.heap.size W w')
      (fun e w' ⟨p, k, g, g', he', hp, hr, o1, o2, hb⟩ => ⟨p, k, g, g', he', isShort_of he k1 k2 k3 hp hr o1 o2, hb⟩)
  clear hh hl
  have hb0 : ∀ o o', Below w.heap.size w ((w.alloc o).alloc o') := fun o o' => ((Below.refl _ _).alloc (Nat.le_refl _) o).alloc (by simp) o'
  go_enter Try.func19, Try.ntmps19
  go_wp2_with fail
  refine (H1.out _ (hb0 _ _)).mono ?_
  rintro e w1 ⟨rfl, hb1⟩
  have c0 : w1.cell? ⟨w.heap.size, 0, none⟩ = some (.slice a h.length c) := by rw [hb1.cell (by simp; omega)]; simp
  have c1 : w1.cell? ⟨w.heap.size, 1, none⟩ = some (.slice a' l.length c') := by rw [hb1.cell (by simp; omega)]; simp
  have r0 : w1.cell? ⟨w.heap.size + 1, 0, none⟩ = some (.slice none 0 0) := by rw [hb1.cell (by simp)]; simp
  have r1 : w1.cell? ⟨w.heap.size + 1, 1, none⟩ = some (.slice none 0 0) := by rw [hb1.cell (by simp)]; simp
  have f0 : w1.frozen? ⟨w.heap.size + 1, 0, none⟩ = false := by rw [hb1.frozen (by simp)]; simp
  have f1 : w1.frozen? ⟨w.heap.size + 1, 1, none⟩ = false := by rw [hb1.frozen (by simp)]; simp
  have hs1 : w.heap.size + 1 < w1.heap.size := by have := hb1.size; simp at this; omega
  have HB : Hid (Below w.heap.size w w1) := (hb0 _ _).trans (hb1.mono (by simp; omega))
  clear hb1
  go_wp2_with fail
  refine (H2.out _ HB.out).mono ?_
  rintro e w2 ⟨v, rfl, ht, hb2⟩
  have r02 : w2.cell? ⟨w.heap.size + 1, 0, none⟩ = some (.slice none 0 0) := cell_later hb2 r0
  have r12 : w2.cell? ⟨w.heap.size + 1, 1, none⟩ = some (.slice none 0 0) := cell_later hb2 r1
  have f02 : w2.frozen? ⟨w.heap.size + 1, 0, none⟩ = false := (hb2.frozen (by simpa using hs1)).trans f0
  have f12 : w2.frozen? ⟨w.heap.size + 1, 1, none⟩ = false := (hb2.frozen (by simpa using hs1)).trans f1
  have hs2 : w.heap.size + 1 < w2.heap.size := Nat.lt_of_lt_of_le hs1 hb2.size
  have HB2 : Hid (Below w.heap.size w w2) := HB.out.trans (hb2.mono (by omega))
  have HT : Hid (Tells (fun m => letF h l (n + m)) w2 v) := ht
  clear hb2 ht
  go_wp2_with fail
  refine (H3.out _ _ HT.out).mono ?_
  rintro e w3 ⟨p, k, g, g', rfl, hi, hb3⟩
  have r03 : w3.cell? ⟨w.heap.size + 1, 0, none⟩ = some (.slice none 0 0) := cell_later hb3 r02
  have r13 : w3.cell? ⟨w.heap.size + 1, 1, none⟩ = some (.slice none 0 0) := cell_later hb3 r12
  have f03 : w3.frozen? ⟨w.heap.size + 1, 0, none⟩ = false := (hb3.frozen (by simpa using hs2)).trans f02
  have f13 : w3.frozen? ⟨w.heap.size + 1, 1, none⟩ = false := (hb3.frozen (by simpa using hs2)).trans f12
  have HE : Hid (IsShort (fun m => letF h l (n + m)) w.heap.size ((w3.setCell ⟨w.heap.size + 1, 0, none⟩ (.slice (some ⟨g, 0, none⟩) k k)).setCell ⟨w.heap.size + 1, 1, none⟩ (.slice (some ⟨g', 0, none⟩) p p)) p k g g' ∧ Below w.heap.size w ((w3.setCell ⟨w.heap.size + 1, 0, none⟩ (.slice (some ⟨g, 0, none⟩) k k)).setCell ⟨w.heap.size + 1, 1, none⟩ (.slice (some ⟨g', 0, none⟩) p p))) := short_end HB2.out hs2 hi hb3
  clear hi hb3
  go_wp2
  have q0 : (w3.setCell ⟨w.heap.size + 1, 0, none⟩ (.slice (some ⟨g, 0, none⟩) k k)).cell? ⟨w.heap.size + 1, 0, none⟩ = some (.slice (some ⟨g, 0, none⟩) k k) := cell_set_same r03
  have q1 : ((w3.setCell ⟨w.heap.size + 1, 0, none⟩ (.slice (some ⟨g, 0, none⟩) k k)).setCell ⟨w.heap.size + 1, 1, none⟩ (.slice (some ⟨g', 0, none⟩) p p)).cell? ⟨w.heap.size + 1, 1, none⟩ = some (.slice (some ⟨g', 0, none⟩) p p) := cell_set_two r13
  exact bodyPost_ret (v := .tuple #[.agg #[.slice (some ⟨g, 0, none⟩) k k, .slice (some ⟨g', 0, none⟩) p p], .int .i64 0]) (by simp [results, Try.results19, go_sem, q0, q1]) rfl ⟨p, k, g, g', rfl, HE.out.1, HE.out.2⟩

end Go.Proofs.Ythccdfjmkdcehaa
