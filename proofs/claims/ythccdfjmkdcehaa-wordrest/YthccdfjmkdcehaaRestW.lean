/- The walk of the law WordRest, case by case, out of the contracts of what it calls. -/
import Derived.Test.YthccdfjmkdcehaaShorts
namespace Go.Proofs.Ythccdfjmkdcehaa
open Go.RowKit
set_option linter.unusedVariables false

theorem below_o {B : Nat} {w W : World} (h : Below B w W) (hB : B ≤ W.heap.size) : ∀ o, Below B w (W.alloc o) := fun o => h.alloc hB o
theorem cell_o {W : World} {a : Addr} {v : Value} (h : W.cell? a = some v) : ∀ o, (W.alloc o).cell? a = some v := fun o => cell_later ((Below.refl _ _).alloc (Nat.le_refl _) o) h
theorem short_o {f : Nat → Int} {B : Nat} {W : World} {p k g g' : Nat} (h : IsShort f B W p k g g') : ∀ o, IsShort f B (W.alloc o) p k g g' := fun o => h.later ((Below.refl _ _).alloc (Nat.le_refl _) o)
theorem ints_lit (W : World) (xs : List Int) (t : TypeId) (g : Nat) (hg : W.heap.size = g) : Ints (W.alloc (.cells (xs.map (Value.int .i64)).toArray t)) (some ⟨g, 0, none⟩) xs := by
  subst hg
  refine .inr ⟨_, _, rfl, fun i hi => ?_⟩
  rw [cell_of_row _ W.heap.size (0 + i) _ t (0, 0) (heap_alloc_new W _)]
  simp [hi]

set_option maxHeartbeats 1000000 in
theorem rest_N1 (n m : Int) (a a' : Option Addr) (c c' : Nat) (h l : List Int) (w : World) (hn : n < 0) :
    Calls Try.prog 6 #[.agg #[.slice a h.length c, .slice a' l.length c'], .int .i64 n, .int .i64 m] w fun e w' => e = .returned (.bool true) ∧ Below w.heap.size w w' := by
  have d1 : decide (n < 0) = true := by simpa using hn
  have HL0 : Hid (∀ W : World, Ints W (some ⟨w.heap.size + 1, 0, none⟩) [0, 1] → Ints W (some ⟨w.heap.size + 1 + 1, 0, none⟩) [0, 1, 0, 1] → Calls Try.prog 19 #[.agg #[.slice (some ⟨w.heap.size + 1, 0, none⟩) 2 2, .slice (some ⟨w.heap.size + 1 + 1, 0, none⟩) 4 4], .int .i64 5] W fun e w' => ∃ g g' : Nat, e = .returned (.tuple #[.agg #[.slice (some ⟨g, 0, none⟩) 0 0, .slice (some ⟨g', 0, none⟩) 2 2], .int .i64 0]) ∧ w'.cell? ⟨g', 0, none⟩ = some (.int .i64 1) ∧ Below W.heap.size W w') := fun W i1 i2 => rest_01 _ _ W i1 i2
  have hb0 : ∀ o o' o'', Below w.heap.size w (((w.alloc o).alloc o').alloc o'') := fun o o' o'' => (((Below.refl _ _).alloc (Nat.le_refl _) o).alloc (by simp) o').alloc (by simp; omega) o''
  go_enter Try.func6, Try.ntmps6
  go_wp2_with fail
  refine (HL0.out _ ?_ ?_).mono ?_
  · exact ((ints_lit (w.alloc (.cells #[.slice a h.length c, .slice a' l.length c'] 30)) [0, 1] 3 _ (by simp)).later ((Below.refl _ _).alloc (Nat.le_refl _) _))
  · exact (ints_lit ((w.alloc (.cells #[.slice a h.length c, .slice a' l.length c'] 30)).alloc (.cells #[.int .i64 0, .int .i64 1] 3)) [0, 1, 0, 1] 3 _ (by simp))
  rintro e w1 ⟨g, g', rfl, hg1, hb1⟩
  have cx := cell_o hg1
  have c0 : w1.cell? ⟨w.heap.size, 0, none⟩ = some (.slice a h.length c) := by rw [hb1.cell (by simp; omega)]; go_simp
  have c1 : w1.cell? ⟨w.heap.size, 1, none⟩ = some (.slice a' l.length c') := by rw [hb1.cell (by simp; omega)]; go_simp
  have hs1 : w.heap.size < w1.heap.size := by have := hb1.size; simp at this; omega
  have HB1 : Hid (Below w.heap.size w w1) := (hb0 _ _ _).trans (hb1.mono (by simp; omega))
  have co0 := cell_o c0
  have co1 := cell_o c1
  clear hb1 hg1 c0 c1
  go_wp2
  go_ret
  exact ⟨rfl, HB1.out.alloc (by omega) _⟩

set_option maxHeartbeats 1000000 in
theorem rest_N2 (n m : Int) (a a' : Option Addr) (c c' : Nat) (h l : List Int) (w : World) (hn : 0 ≤ n) (hm : m < 0) :
    Calls Try.prog 6 #[.agg #[.slice a h.length c, .slice a' l.length c'], .int .i64 n, .int .i64 m] w fun e w' => e = .returned (.bool true) ∧ Below w.heap.size w w' := by
  have d1 : decide (n < 0) = false := by simp; omega
  have d2 : decide (m < 0) = true := by simpa using hm
  have HL0 : Hid (∀ W : World, Ints W (some ⟨w.heap.size + 1, 0, none⟩) [0, 1] → Ints W (some ⟨w.heap.size + 1 + 1, 0, none⟩) [0, 1, 0, 1] → Calls Try.prog 19 #[.agg #[.slice (some ⟨w.heap.size + 1, 0, none⟩) 2 2, .slice (some ⟨w.heap.size + 1 + 1, 0, none⟩) 4 4], .int .i64 5] W fun e w' => ∃ g g' : Nat, e = .returned (.tuple #[.agg #[.slice (some ⟨g, 0, none⟩) 0 0, .slice (some ⟨g', 0, none⟩) 2 2], .int .i64 0]) ∧ w'.cell? ⟨g', 0, none⟩ = some (.int .i64 1) ∧ Below W.heap.size W w') := fun W i1 i2 => rest_01 _ _ W i1 i2
  have hb0 : ∀ o o' o'', Below w.heap.size w (((w.alloc o).alloc o').alloc o'') := fun o o' o'' => (((Below.refl _ _).alloc (Nat.le_refl _) o).alloc (by simp) o').alloc (by simp; omega) o''
  go_enter Try.func6, Try.ntmps6
  go_wp2_with fail
  refine (HL0.out _ ?_ ?_).mono ?_
  · exact ((ints_lit (w.alloc (.cells #[.slice a h.length c, .slice a' l.length c'] 30)) [0, 1] 3 _ (by simp)).later ((Below.refl _ _).alloc (Nat.le_refl _) _))
  · exact (ints_lit ((w.alloc (.cells #[.slice a h.length c, .slice a' l.length c'] 30)).alloc (.cells #[.int .i64 0, .int .i64 1] 3)) [0, 1, 0, 1] 3 _ (by simp))
  rintro e w1 ⟨g, g', rfl, hg1, hb1⟩
  have cx := cell_o hg1
  have c0 : w1.cell? ⟨w.heap.size, 0, none⟩ = some (.slice a h.length c) := by rw [hb1.cell (by simp; omega)]; go_simp
  have c1 : w1.cell? ⟨w.heap.size, 1, none⟩ = some (.slice a' l.length c') := by rw [hb1.cell (by simp; omega)]; go_simp
  have hs1 : w.heap.size < w1.heap.size := by have := hb1.size; simp at this; omega
  have HB1 : Hid (Below w.heap.size w w1) := (hb0 _ _ _).trans (hb1.mono (by simp; omega))
  have co0 := cell_o c0
  have co1 := cell_o c1
  clear hb1 hg1 c0 c1
  go_wp2
  go_ret
  exact ⟨rfl, HB1.out.alloc (by omega) _⟩

set_option maxHeartbeats 1000000 in
theorem rest_N3 (n m : Int) (a a' : Option Addr) (c c' : Nat) (h l : List Int) (w : World) (hn : 1099511627776 < n) (hm : 0 ≤ m) :
    Calls Try.prog 6 #[.agg #[.slice a h.length c, .slice a' l.length c'], .int .i64 n, .int .i64 m] w fun e w' => e = .returned (.bool true) ∧ Below w.heap.size w w' := by
  have d1 : decide (n < 0) = false := by simp; omega
  have d2 : decide (m < 0) = false := by simp; omega
  have d3 : decide (1099511627776 < n) = true := by simpa using hn
  have HL0 : Hid (∀ W : World, Ints W (some ⟨w.heap.size + 1, 0, none⟩) [0, 1] → Ints W (some ⟨w.heap.size + 1 + 1, 0, none⟩) [0, 1, 0, 1] → Calls Try.prog 19 #[.agg #[.slice (some ⟨w.heap.size + 1, 0, none⟩) 2 2, .slice (some ⟨w.heap.size + 1 + 1, 0, none⟩) 4 4], .int .i64 5] W fun e w' => ∃ g g' : Nat, e = .returned (.tuple #[.agg #[.slice (some ⟨g, 0, none⟩) 0 0, .slice (some ⟨g', 0, none⟩) 2 2], .int .i64 0]) ∧ w'.cell? ⟨g', 0, none⟩ = some (.int .i64 1) ∧ Below W.heap.size W w') := fun W i1 i2 => rest_01 _ _ W i1 i2
  have hb0 : ∀ o o' o'', Below w.heap.size w (((w.alloc o).alloc o').alloc o'') := fun o o' o'' => (((Below.refl _ _).alloc (Nat.le_refl _) o).alloc (by simp) o').alloc (by simp; omega) o''
  go_enter Try.func6, Try.ntmps6
  go_wp2_with fail
  refine (HL0.out _ ?_ ?_).mono ?_
  · exact ((ints_lit (w.alloc (.cells #[.slice a h.length c, .slice a' l.length c'] 30)) [0, 1] 3 _ (by simp)).later ((Below.refl _ _).alloc (Nat.le_refl _) _))
  · exact (ints_lit ((w.alloc (.cells #[.slice a h.length c, .slice a' l.length c'] 30)).alloc (.cells #[.int .i64 0, .int .i64 1] 3)) [0, 1, 0, 1] 3 _ (by simp))
  rintro e w1 ⟨g, g', rfl, hg1, hb1⟩
  have cx := cell_o hg1
  have c0 : w1.cell? ⟨w.heap.size, 0, none⟩ = some (.slice a h.length c) := by rw [hb1.cell (by simp; omega)]; go_simp
  have c1 : w1.cell? ⟨w.heap.size, 1, none⟩ = some (.slice a' l.length c') := by rw [hb1.cell (by simp; omega)]; go_simp
  have hs1 : w.heap.size < w1.heap.size := by have := hb1.size; simp at this; omega
  have HB1 : Hid (Below w.heap.size w w1) := (hb0 _ _ _).trans (hb1.mono (by simp; omega))
  have co0 := cell_o c0
  have co1 := cell_o c1
  clear hb1 hg1 c0 c1
  go_wp2
  go_ret
  exact ⟨rfl, HB1.out.alloc (by omega) _⟩

set_option maxHeartbeats 1000000 in
theorem rest_N4 (n m : Int) (a a' : Option Addr) (c c' : Nat) (h l : List Int) (w : World) (hn : 0 ≤ n) (hn' : n ≤ 1099511627776) (hm : 1099511627776 < m) :
    Calls Try.prog 6 #[.agg #[.slice a h.length c, .slice a' l.length c'], .int .i64 n, .int .i64 m] w fun e w' => e = .returned (.bool true) ∧ Below w.heap.size w w' := by
  have d1 : decide (n < 0) = false := by simp; omega
  have d2 : decide (m < 0) = false := by simp; omega
  have d3 : decide (1099511627776 < n) = false := by simp; omega
  have d4 : decide (1099511627776 < m) = true := by simpa using hm
  have HL0 : Hid (∀ W : World, Ints W (some ⟨w.heap.size + 1, 0, none⟩) [0, 1] → Ints W (some ⟨w.heap.size + 1 + 1, 0, none⟩) [0, 1, 0, 1] → Calls Try.prog 19 #[.agg #[.slice (some ⟨w.heap.size + 1, 0, none⟩) 2 2, .slice (some ⟨w.heap.size + 1 + 1, 0, none⟩) 4 4], .int .i64 5] W fun e w' => ∃ g g' : Nat, e = .returned (.tuple #[.agg #[.slice (some ⟨g, 0, none⟩) 0 0, .slice (some ⟨g', 0, none⟩) 2 2], .int .i64 0]) ∧ w'.cell? ⟨g', 0, none⟩ = some (.int .i64 1) ∧ Below W.heap.size W w') := fun W i1 i2 => rest_01 _ _ W i1 i2
  have hb0 : ∀ o o' o'', Below w.heap.size w (((w.alloc o).alloc o').alloc o'') := fun o o' o'' => (((Below.refl _ _).alloc (Nat.le_refl _) o).alloc (by simp) o').alloc (by simp; omega) o''
  go_enter Try.func6, Try.ntmps6
  go_wp2_with fail
  refine (HL0.out _ ?_ ?_).mono ?_
  · exact ((ints_lit (w.alloc (.cells #[.slice a h.length c, .slice a' l.length c'] 30)) [0, 1] 3 _ (by simp)).later ((Below.refl _ _).alloc (Nat.le_refl _) _))
  · exact (ints_lit ((w.alloc (.cells #[.slice a h.length c, .slice a' l.length c'] 30)).alloc (.cells #[.int .i64 0, .int .i64 1] 3)) [0, 1, 0, 1] 3 _ (by simp))
  rintro e w1 ⟨g, g', rfl, hg1, hb1⟩
  have cx := cell_o hg1
  have c0 : w1.cell? ⟨w.heap.size, 0, none⟩ = some (.slice a h.length c) := by rw [hb1.cell (by simp; omega)]; go_simp
  have c1 : w1.cell? ⟨w.heap.size, 1, none⟩ = some (.slice a' l.length c') := by rw [hb1.cell (by simp; omega)]; go_simp
  have hs1 : w.heap.size < w1.heap.size := by have := hb1.size; simp at this; omega
  have HB1 : Hid (Below w.heap.size w w1) := (hb0 _ _ _).trans (hb1.mono (by simp; omega))
  have co0 := cell_o c0
  have co1 := cell_o c1
  clear hb1 hg1 c0 c1
  go_wp2
  go_ret
  exact ⟨rfl, HB1.out.alloc (by omega) _⟩

set_option maxHeartbeats 1000000 in
theorem rest_B (n m : Nat) (a a' : Option Addr) (c c' : Nat) (h l : List Int) (w : World) (hn : n ≤ 1099511627776) (hm : m ≤ 1099511627776) (x : Int) (hx : x ≠ 0)
    (HR : Hid (∀ W, Below w.heap.size w W → Calls Try.prog 19 #[.agg #[.slice a h.length c, .slice a' l.length c'], .int .i64 n] W fun e w' => e = .returned (.tuple #[.agg #[.slice none 0 0, .slice none 0 0], .int .i64 x]) ∧ Below W.heap.size W w')) :
    Calls Try.prog 6 #[.agg #[.slice a h.length c, .slice a' l.length c'], .int .i64 n, .int .i64 m] w fun e w' => e = .returned (.bool true) ∧ Below w.heap.size w w' := by
  have d1 : decide ((n : Int) < 0) = false := by first | (simp; done) | (simp; omega)
  have d2 : decide ((m : Int) < 0) = false := by first | (simp; done) | (simp; omega)
  have d3 : decide ((1099511627776 : Int) < (n : Int)) = false := by simp; omega
  have d4 : decide ((1099511627776 : Int) < (m : Int)) = false := by simp; omega
  have hx' : (x != 0) = true := by simpa using hx
  have HL0 : Hid (∀ W : World, Ints W (some ⟨w.heap.size + 1, 0, none⟩) [0, 1] → Ints W (some ⟨w.heap.size + 1 + 1, 0, none⟩) [0, 1, 0, 1] → Calls Try.prog 19 #[.agg #[.slice (some ⟨w.heap.size + 1, 0, none⟩) 2 2, .slice (some ⟨w.heap.size + 1 + 1, 0, none⟩) 4 4], .int .i64 5] W fun e w' => ∃ g g' : Nat, e = .returned (.tuple #[.agg #[.slice (some ⟨g, 0, none⟩) 0 0, .slice (some ⟨g', 0, none⟩) 2 2], .int .i64 0]) ∧ w'.cell? ⟨g', 0, none⟩ = some (.int .i64 1) ∧ Below W.heap.size W w') := fun W i1 i2 => rest_01 _ _ W i1 i2
  have hb0 : ∀ o o' o'', Below w.heap.size w (((w.alloc o).alloc o').alloc o'') := fun o o' o'' => (((Below.refl _ _).alloc (Nat.le_refl _) o).alloc (by simp) o').alloc (by simp; omega) o''
  go_enter Try.func6, Try.ntmps6
  go_wp2_with fail
  refine (HL0.out _ ?_ ?_).mono ?_
  · exact ((ints_lit (w.alloc (.cells #[.slice a h.length c, .slice a' l.length c'] 30)) [0, 1] 3 _ (by simp)).later ((Below.refl _ _).alloc (Nat.le_refl _) _))
  · exact (ints_lit ((w.alloc (.cells #[.slice a h.length c, .slice a' l.length c'] 30)).alloc (.cells #[.int .i64 0, .int .i64 1] 3)) [0, 1, 0, 1] 3 _ (by simp))
  rintro e w1 ⟨g, g', rfl, hg1, hb1⟩
  have cx := cell_o hg1
  have c0 : w1.cell? ⟨w.heap.size, 0, none⟩ = some (.slice a h.length c) := by rw [hb1.cell (by simp; omega)]; go_simp
  have c1 : w1.cell? ⟨w.heap.size, 1, none⟩ = some (.slice a' l.length c') := by rw [hb1.cell (by simp; omega)]; go_simp
  have hs1 : w.heap.size < w1.heap.size := by have := hb1.size; simp at this; omega
  have HB1 : Hid (Below w.heap.size w w1) := (hb0 _ _ _).trans (hb1.mono (by simp; omega))
  have co0 := cell_o c0
  have co1 := cell_o c1
  clear hb1 hg1 c0 c1
  go_wp2_with fail
  refine (HR.out _ (below_o HB1.out (by omega) _)).mono ?_
  rintro e w2 ⟨rfl, hb2⟩
  have HB2 : Hid (Below w.heap.size w w2) := (below_o HB1.out (by omega) _).trans (hb2.mono (by simp; omega))
  have hs2 : w.heap.size < w2.heap.size := by have := hb2.size; simp at this; omega
  clear hb2
  go_wp2
  go_ret
  exact ⟨rfl, HB2.out.alloc (by omega) _⟩

set_option maxHeartbeats 4000000 in
theorem rest_G (n m : Nat) (a a' : Option Addr) (c c' : Nat) (h l : List Int) (w : World) (hn : n ≤ 1099511627776) (hm : m ≤ 1099511627776) (y : Int)
    (HR : Hid (∀ W, Below w.heap.size w W → Calls Try.prog 19 #[.agg #[.slice a h.length c, .slice a' l.length c'], .int .i64 n] W fun e w' => ∃ p k g g' : Nat, e = .returned (.tuple #[.agg #[.slice (some ⟨g, 0, none⟩) k k, .slice (some ⟨g', 0, none⟩) p p], .int .i64 0]) ∧ IsShort (fun j => letF h l (n + j)) W.heap.size w' p k g g' ∧ Below W.heap.size W w'))
    (HS : Hid (∀ W (B p k g g' : Nat), IsShort (fun j => letF h l (n + j)) B W p k g g' → Calls Try.prog 19 #[.agg #[.slice (some ⟨g, 0, none⟩) k k, .slice (some ⟨g', 0, none⟩) p p], .int .i64 m] W fun e w' => ∃ p k g g' : Nat, e = .returned (.tuple #[.agg #[.slice (some ⟨g, 0, none⟩) k k, .slice (some ⟨g', 0, none⟩) p p], .int .i64 0]) ∧ IsShort (fun j => letF h l (n + m + j)) W.heap.size w' p k g g' ∧ Below W.heap.size W w'))
    (HT : Hid (∀ W (x : Int), Below w.heap.size w W → x = (n : Int) + (m : Int) → Calls Try.prog 19 #[.agg #[.slice a h.length c, .slice a' l.length c'], .int .i64 x] W fun e w' => ∃ p k g g' : Nat, e = .returned (.tuple #[.agg #[.slice (some ⟨g, 0, none⟩) k k, .slice (some ⟨g', 0, none⟩) p p], .int .i64 0]) ∧ IsShort (fun j => letF h l (n + m + j)) W.heap.size w' p k g g' ∧ Below W.heap.size W w'))
    (HN : Hid (∀ W (B p k g g' : Nat), IsShort (fun j => letF h l (n + m + j)) B W p k g g' → Calls Try.prog 18 #[.agg #[.slice (some ⟨g, 0, none⟩) k k, .slice (some ⟨g', 0, none⟩) p p]] W fun e w' => ∃ p k g g' : Nat, e = .returned (.tuple #[.agg #[.slice (some ⟨g, 0, none⟩) k k, .slice (some ⟨g', 0, none⟩) p p], .int .i64 0]) ∧ IsShort (fun j => letF h l (n + m + j)) W.heap.size w' p k g g' ∧ Below W.heap.size W w'))
    (HX : Hid (∀ W (x : Int), Below w.heap.size w W → x = (n : Int) + (m : Int) → Calls Try.prog 13 #[.agg #[.slice a h.length c, .slice a' l.length c'], .int .i64 x] W fun e w' => e = .returned (.tuple #[.int .i64 y, .int .i64 0]) ∧ Below W.heap.size W w'))
    (HY : Hid (∀ W (B p k g g' : Nat), IsShort (fun j => letF h l (n + m + j)) B W p k g g' → Calls Try.prog 13 #[.agg #[.slice (some ⟨g, 0, none⟩) k k, .slice (some ⟨g', 0, none⟩) p p], .int .i64 0] W fun e w' => e = .returned (.tuple #[.int .i64 y, .int .i64 0]) ∧ Below W.heap.size W w'))
    (HW : Hid (∀ W (a a' : Nat) (zs : List Int) (q : Nat), Ints W (some ⟨a, 0, none⟩) zs → Ints W (some ⟨a', 0, none⟩) zs → zs.length = q → q ≤ 60 → Calls Try.prog 24 #[.slice (some ⟨a, 0, none⟩) q q, .slice (some ⟨a', 0, none⟩) q q] W fun e w' => e = .returned (.bool true) ∧ Below W.heap.size W w')) :
    Calls Try.prog 6 #[.agg #[.slice a h.length c, .slice a' l.length c'], .int .i64 n, .int .i64 m] w fun e w' => e = .returned (.bool true) ∧ Below w.heap.size w w' := by
  have d1 : decide ((n : Int) < 0) = false := by first | (simp; done) | (simp; omega)
  have d2 : decide ((m : Int) < 0) = false := by first | (simp; done) | (simp; omega)
  have d3 : decide ((1099511627776 : Int) < (n : Int)) = false := by simp; omega
  have d4 : decide ((1099511627776 : Int) < (m : Int)) = false := by simp; omega
  have HL0 : Hid (∀ W : World, Ints W (some ⟨w.heap.size + 1, 0, none⟩) [0, 1] → Ints W (some ⟨w.heap.size + 1 + 1, 0, none⟩) [0, 1, 0, 1] → Calls Try.prog 19 #[.agg #[.slice (some ⟨w.heap.size + 1, 0, none⟩) 2 2, .slice (some ⟨w.heap.size + 1 + 1, 0, none⟩) 4 4], .int .i64 5] W fun e w' => ∃ g g' : Nat, e = .returned (.tuple #[.agg #[.slice (some ⟨g, 0, none⟩) 0 0, .slice (some ⟨g', 0, none⟩) 2 2], .int .i64 0]) ∧ w'.cell? ⟨g', 0, none⟩ = some (.int .i64 1) ∧ Below W.heap.size W w') := fun W i1 i2 => rest_01 _ _ W i1 i2
  have hb0 : ∀ o o' o'', Below w.heap.size w (((w.alloc o).alloc o').alloc o'') := fun o o' o'' => (((Below.refl _ _).alloc (Nat.le_refl _) o).alloc (by simp) o').alloc (by simp; omega) o''
  go_enter Try.func6, Try.ntmps6
  go_wp2_with fail
  refine (HL0.out _ ?_ ?_).mono ?_
  · exact ((ints_lit (w.alloc (.cells #[.slice a h.length c, .slice a' l.length c'] 30)) [0, 1] 3 _ (by simp)).later ((Below.refl _ _).alloc (Nat.le_refl _) _))
  · exact (ints_lit ((w.alloc (.cells #[.slice a h.length c, .slice a' l.length c'] 30)).alloc (.cells #[.int .i64 0, .int .i64 1] 3)) [0, 1, 0, 1] 3 _ (by simp))
  rintro e w1 ⟨g, g', rfl, hg1, hb1⟩
  have cx := cell_o hg1
  have c0 : w1.cell? ⟨w.heap.size, 0, none⟩ = some (.slice a h.length c) := by rw [hb1.cell (by simp; omega)]; go_simp
  have c1 : w1.cell? ⟨w.heap.size, 1, none⟩ = some (.slice a' l.length c') := by rw [hb1.cell (by simp; omega)]; go_simp
  have hs1 : w.heap.size < w1.heap.size := by have := hb1.size; simp at this; omega
  have HB1 : Hid (Below w.heap.size w w1) := (hb0 _ _ _).trans (hb1.mono (by simp; omega))
  have co0 := cell_o c0
  have co1 := cell_o c1
  clear hb1 hg1 c0 c1
  go_wp2_with fail
  refine (HR.out _ (below_o HB1.out (by omega) _)).mono ?_
  rintro e w2 ⟨pa, ka, ga, ga', rfl, ia2, hb2⟩
  have c02 := cell_later hb2 (co0 _)
  have c12 := cell_later hb2 (co1 _)
  have hs2 : w.heap.size < w2.heap.size := by have := hb2.size; simp at this; omega
  have HB2 : Hid (Below w.heap.size w w2) := (below_o HB1.out (by omega) _).trans (hb2.mono (by simp; omega))
  have SA2 : Hid (∀ o, IsShort (fun j => letF h l (n + j)) _ (w2.alloc o) pa ka ga ga') := short_o ia2
  have co02 := cell_o c02
  have co12 := cell_o c12
  clear hb2 ia2 co0 co1 cx
  go_wp2_with fail
  refine (HS.out _ _ _ _ _ _ (SA2.out _)).mono ?_
  rintro e w3 ⟨pb, kb, gb, gb', rfl, ib3, hb3⟩
  have c03 := cell_later hb3 (co02 _)
  have c13 := cell_later hb3 (co12 _)
  have hs3 : w.heap.size < w3.heap.size := by have := hb3.size; simp at this; omega
  have HB3 : Hid (Below w.heap.size w w3) := (below_o HB2.out (by omega) _).trans (hb3.mono (by simp; omega))
  have SB3 : Hid (∀ o, IsShort (fun j => letF h l (n + m + j)) _ (w3.alloc o) pb kb gb gb') := short_o ib3
  have co03 := cell_o c03
  have co13 := cell_o c13
  clear hb3 ib3 co02 co12 c02 c12 SA2
  go_wp2_with fail
  refine (HT.out _ _ (below_o HB3.out (by omega) _) (by omega)).mono ?_
  rintro e w4 ⟨pc, kc, gc, gc', rfl, ic4, hb4⟩
  have b04 : w4.cell? ⟨w3.heap.size, 0, none⟩ = some (.slice (some ⟨gb, 0, none⟩) kb kb) := by rw [hb4.cell (by simp)]; simp
  have b14 : w4.cell? ⟨w3.heap.size, 1, none⟩ = some (.slice (some ⟨gb', 0, none⟩) pb pb) := by rw [hb4.cell (by simp)]; simp
  have ib4 := (SB3.out _).later hb4
  obtain ⟨ek, ep⟩ := ic4.sh.unique ib4.sh
  subst ek ep
  have c04 := cell_later hb4 (co03 _)
  have c14 := cell_later hb4 (co13 _)
  have hs4 : w.heap.size < w4.heap.size := by have := hb4.size; simp at this; omega
  have HB4 : Hid (Below w.heap.size w w4) := (below_o HB3.out (by omega) _).trans (hb4.mono (by simp; omega))
  have SB4 : Hid (∀ o, IsShort (fun j => letF h l (n + m + j)) _ (w4.alloc o) pc kc gb gb') := short_o ib4
  have SC4 : Hid (∀ o, IsShort (fun j => letF h l (n + m + j)) _ (w4.alloc o) pc kc gc gc') := short_o ic4
  have co04 := cell_o c04
  have co14 := cell_o c14
  have bo04 := cell_o b04
  have bo14 := cell_o b14
  have k60 : kc ≤ 60 := ic4.k60
  have p60 : pc ≤ 60 := ic4.p60
  clear hb4 ib4 ic4 co03 co13 c03 c13 SB3
  go_wp2_with fail
  refine (HN.out _ _ _ _ _ _ (SC4.out _)).mono ?_
  rintro e w5 ⟨pd, kd, gd, gd', rfl, id5, hb5⟩
  have ib5 := (SB4.out _).later hb5
  have ic5 := (SC4.out _).later hb5
  obtain ⟨ek, ep⟩ := id5.sh.unique ic5.sh
  subst ek ep
  have e05 : w5.cell? ⟨w4.heap.size, 0, none⟩ = some (.slice (some ⟨gc, 0, none⟩) kd kd) := by rw [hb5.cell (by simp)]; simp
  have e15 : w5.cell? ⟨w4.heap.size, 1, none⟩ = some (.slice (some ⟨gc', 0, none⟩) pd pd) := by rw [hb5.cell (by simp)]; simp
  have c05 := cell_later hb5 (co04 _)
  have c15 := cell_later hb5 (co14 _)
  have b05 := cell_later hb5 (bo04 _)
  have b15 := cell_later hb5 (bo14 _)
  have hs5 : w.heap.size < w5.heap.size := by have := hb5.size; simp at this; omega
  have HB5 : Hid (Below w.heap.size w w5) := (below_o HB4.out (by omega) _).trans (hb5.mono (by simp; omega))
  have SB5 : Hid (∀ o, IsShort (fun j => letF h l (n + m + j)) _ (w5.alloc o) pd kd gb gb') := short_o ib5
  have SC5 : Hid (∀ o, IsShort (fun j => letF h l (n + m + j)) _ (w5.alloc o) pd kd gc gc') := short_o ic5
  have SD5 : Hid (∀ o, IsShort (fun j => letF h l (n + m + j)) _ (w5.alloc o) pd kd gd gd') := short_o id5
  have co05 := cell_o c05
  have co15 := cell_o c15
  have bo05 := cell_o b05
  have bo15 := cell_o b15
  have eo05 := cell_o e05
  have eo15 := cell_o e15
  clear hb5 ib5 ic5 id5 co04 co14 bo04 bo14 c04 c14 b04 b14 SB4 SC4
  go_wp2_with fail
  refine (HX.out _ _ (below_o HB5.out (by omega) _) (by omega)).mono ?_
  rintro e w6 ⟨rfl, hb6⟩
  have d06 : w6.cell? ⟨w5.heap.size, 0, none⟩ = some (.slice (some ⟨gd, 0, none⟩) kd kd) := by rw [hb6.cell (by simp)]; simp
  have d16 : w6.cell? ⟨w5.heap.size, 1, none⟩ = some (.slice (some ⟨gd', 0, none⟩) pd pd) := by rw [hb6.cell (by simp)]; simp
  have b06 := cell_later hb6 (bo05 _)
  have b16 := cell_later hb6 (bo15 _)
  have e06 := cell_later hb6 (eo05 _)
  have e16 := cell_later hb6 (eo15 _)
  have HB6 : Hid (Below w.heap.size w w6) := (below_o HB5.out (by omega) _).trans (hb6.mono (by simp; omega))
  have hs6 : w.heap.size < w6.heap.size := by have := hb6.size; simp at this; omega
  have SB6 : Hid (IsShort (fun j => letF h l (n + m + j)) _ w6 pd kd gb gb') := (SB5.out _).later hb6
  have SC6 : Hid (IsShort (fun j => letF h l (n + m + j)) _ w6 pd kd gc gc') := (SC5.out _).later hb6
  have SD6 : Hid (IsShort (fun j => letF h l (n + m + j)) _ w6 pd kd gd gd') := (SD5.out _).later hb6
  clear hb6 SB5 SC5 SD5 co05 co15 bo05 bo15 eo05 eo15 c05 c15 b05 b15 e05 e15
  go_wp2_with fail
  refine (HY.out _ _ _ _ _ _ SB6.out).mono ?_
  rintro e w7 ⟨rfl, hb7⟩
  have b07 := cell_later hb7 b06
  have b17 := cell_later hb7 b16
  have e07 := cell_later hb7 e06
  have e17 := cell_later hb7 e16
  have d07 := cell_later hb7 d06
  have d17 := cell_later hb7 d16
  have HB7 : Hid (Below w.heap.size w w7) := HB6.out.trans (hb7.mono (by omega))
  have hs7 : w.heap.size < w7.heap.size := Nat.lt_of_lt_of_le hs6 hb7.size
  have SB7 : Hid (IsShort (fun j => letF h l (n + m + j)) _ w7 pd kd gb gb') := SB6.out.later hb7
  have SC7 : Hid (IsShort (fun j => letF h l (n + m + j)) _ w7 pd kd gc gc') := SC6.out.later hb7
  have SD7 : Hid (IsShort (fun j => letF h l (n + m + j)) _ w7 pd kd gd gd') := SD6.out.later hb7
  clear hb7 b06 b16 e06 e16 d06 d16 SB6 SC6 SD6
  go_wp2_with fail
  refine (HW.out _ _ _ _ _ SB7.out.head.ints SC7.out.head.ints (length_pieceOf _ _ _) k60).mono ?_
  rintro e w8 ⟨rfl, hb8⟩
  have b08 := cell_later hb8 b07
  have b18 := cell_later hb8 b17
  have e08 := cell_later hb8 e07
  have e18 := cell_later hb8 e17
  have d08 := cell_later hb8 d07
  have d18 := cell_later hb8 d17
  have HB8 : Hid (Below w.heap.size w w8) := HB7.out.trans (hb8.mono (by omega))
  have hs8 : w.heap.size < w8.heap.size := Nat.lt_of_lt_of_le hs7 hb8.size
  have SB8 : Hid (IsShort (fun j => letF h l (n + m + j)) _ w8 pd kd gb gb') := SB7.out.later hb8
  have SC8 : Hid (IsShort (fun j => letF h l (n + m + j)) _ w8 pd kd gc gc') := SC7.out.later hb8
  have SD8 : Hid (IsShort (fun j => letF h l (n + m + j)) _ w8 pd kd gd gd') := SD7.out.later hb8
  clear hb8 b07 b17 e07 e17 d07 d17 SB7 SC7 SD7
  go_wp2_with fail
  refine (HW.out _ _ _ _ _ SB8.out.loop.ints SC8.out.loop.ints (length_pieceOf _ _ _) p60).mono ?_
  rintro e w9 ⟨rfl, hb9⟩
  have b09 := cell_later hb9 b08
  have b19 := cell_later hb9 b18
  have e09 := cell_later hb9 e08
  have e19 := cell_later hb9 e18
  have d09 := cell_later hb9 d08
  have d19 := cell_later hb9 d18
  have HB9 : Hid (Below w.heap.size w w9) := HB8.out.trans (hb9.mono (by omega))
  have hs9 : w.heap.size < w9.heap.size := Nat.lt_of_lt_of_le hs8 hb9.size
  have SB9 : Hid (IsShort (fun j => letF h l (n + m + j)) _ w9 pd kd gb gb') := SB8.out.later hb9
  have SC9 : Hid (IsShort (fun j => letF h l (n + m + j)) _ w9 pd kd gc gc') := SC8.out.later hb9
  have SD9 : Hid (IsShort (fun j => letF h l (n + m + j)) _ w9 pd kd gd gd') := SD8.out.later hb9
  clear hb9 b08 b18 e08 e18 d08 d18 SB8 SC8 SD8
  go_wp2_with fail
  refine (HW.out _ _ _ _ _ SD9.out.head.ints SC9.out.head.ints (length_pieceOf _ _ _) k60).mono ?_
  rintro e w10 ⟨rfl, hb10⟩
  have b010 := cell_later hb10 b09
  have b110 := cell_later hb10 b19
  have e010 := cell_later hb10 e09
  have e110 := cell_later hb10 e19
  have d010 := cell_later hb10 d09
  have d110 := cell_later hb10 d19
  have HB10 : Hid (Below w.heap.size w w10) := HB9.out.trans (hb10.mono (by omega))
  have hs10 : w.heap.size < w10.heap.size := Nat.lt_of_lt_of_le hs9 hb10.size
  have SB10 : Hid (IsShort (fun j => letF h l (n + m + j)) _ w10 pd kd gb gb') := SB9.out.later hb10
  have SC10 : Hid (IsShort (fun j => letF h l (n + m + j)) _ w10 pd kd gc gc') := SC9.out.later hb10
  have SD10 : Hid (IsShort (fun j => letF h l (n + m + j)) _ w10 pd kd gd gd') := SD9.out.later hb10
  clear hb10 b09 b19 e09 e19 d09 d19 SB9 SC9 SD9
  go_wp2_with fail
  refine (HW.out _ _ _ _ _ SD10.out.loop.ints SC10.out.loop.ints (length_pieceOf _ _ _) p60).mono ?_
  rintro e w11 ⟨rfl, hb11⟩
  have b011 := cell_later hb11 b010
  have b111 := cell_later hb11 b110
  have e011 := cell_later hb11 e010
  have e111 := cell_later hb11 e110
  have d011 := cell_later hb11 d010
  have d111 := cell_later hb11 d110
  have HB11 : Hid (Below w.heap.size w w11) := HB10.out.trans (hb11.mono (by omega))
  have hs11 : w.heap.size < w11.heap.size := Nat.lt_of_lt_of_le hs10 hb11.size
  have SB11 : Hid (IsShort (fun j => letF h l (n + m + j)) _ w11 pd kd gb gb') := SB10.out.later hb11
  have SC11 : Hid (IsShort (fun j => letF h l (n + m + j)) _ w11 pd kd gc gc') := SC10.out.later hb11
  have SD11 : Hid (IsShort (fun j => letF h l (n + m + j)) _ w11 pd kd gd gd') := SD10.out.later hb11
  clear hb11 b010 b110 e010 e110 d010 d110 SB10 SC10 SD10
  go_wp2
  go_ret
  exact ⟨by simp, HB11.out⟩

end Go.Proofs.Ythccdfjmkdcehaa
