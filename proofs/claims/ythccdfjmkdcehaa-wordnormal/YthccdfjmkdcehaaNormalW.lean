/- The walk of the law WordNormal, case by case, out of the contracts of what it calls. -/
import Derived.Test.YthccdfjmkdcehaaLeastAny
namespace Go.Proofs.Ythccdfjmkdcehaa
open Go.RowKit
set_option linter.unusedVariables false

theorem ints_far {w : World} {a : Option Addr} {zs : List Int} {b o n d : Nat} {u : Value} {a0 : Option Addr} (h : Ints w a zs) (hz : w.cell? ⟨b, o, none⟩ = some (.slice a0 n d)) : Ints (w.setCell ⟨b, o, none⟩ u) a zs := by
  rcases h with h0 | ⟨b', off, rfl, hc⟩
  · exact .inl h0
  · refine .inr ⟨b', off, rfl, fun i hi => ?_⟩
    rw [World.cell?_setCell_other _ _ _ _ ?_]
    · exact hc i hi
    · intro e
      have := hc i hi
      rw [← e, hz] at this
      simp at this

theorem bel_o {B : Nat} {w W : World} (h : Below B w W) (hB : B ≤ W.heap.size) : ∀ o, Below B w (W.alloc o) := fun o => h.alloc hB o
theorem later_o {W : World} : ∀ o, Below W.heap.size W (W.alloc o) := fun o => (Below.refl _ _).alloc (Nat.le_refl _) o
theorem ce_o {W : World} {a : Addr} {v : Value} (h : W.cell? a = some v) : ∀ o, (W.alloc o).cell? a = some v := fun o => cell_later (later_o o) h

set_option maxHeartbeats 4000000 in
theorem normal_A (n : Int) (a a' : Option Addr) (c c' : Nat) (h l : List Int) (w : World) (one : Int) (h1 : one ≠ 0)
    (HL : Hid (∀ W, Below w.heap.size w W → Calls Try.prog 17 #[.agg #[.slice a h.length c, .slice a' l.length c']] W fun e w' => ∃ gx gx' : Nat, e = .returned (.agg #[.slice (some ⟨gx, 0, none⟩) h.length (h.length + 3), .slice (some ⟨gx', 0, none⟩) l.length (l.length + 3)]) ∧ Own W.heap.size w' (.slice (some ⟨gx, 0, none⟩) h.length (h.length + 3)) h ∧ Own W.heap.size w' (.slice (some ⟨gx', 0, none⟩) l.length (l.length + 3)) l ∧ Below W.heap.size W w'))
    (HN : Hid (∀ W (gx gx' : Nat), Ints W (some ⟨gx, 0, none⟩) h → Ints W (some ⟨gx', 0, none⟩) l → Calls Try.prog 18 #[.agg #[.slice (some ⟨gx, 0, none⟩) h.length (h.length + 3), .slice (some ⟨gx', 0, none⟩) l.length (l.length + 3)]] W fun e w' => e = .returned (.tuple #[.agg #[.slice none 0 0, .slice none 0 0], .int .i64 one]) ∧ Below W.heap.size W w'))
    (HR : Hid (∀ W (gx gx' : Nat), Ints W (some ⟨gx, 0, none⟩) h → Ints W (some ⟨gx', 0, none⟩) l → Calls Try.prog 19 #[.agg #[.slice (some ⟨gx, 0, none⟩) h.length (h.length + 3), .slice (some ⟨gx', 0, none⟩) l.length (l.length + 3)], .int .i64 n] W fun e w' => e = .returned (.tuple #[.agg #[.slice none 0 0, .slice none 0 0], .int .i64 one]) ∧ Below W.heap.size W w'))
    (HX : Hid (∀ W (gx gx' : Nat), Ints W (some ⟨gx, 0, none⟩) h → Ints W (some ⟨gx', 0, none⟩) l → Below w.heap.size w W → Calls Try.prog 20 #[.agg #[.slice (some ⟨gx, 0, none⟩) h.length (h.length + 3), .slice (some ⟨gx', 0, none⟩) l.length (l.length + 3)], .agg #[.slice a h.length c, .slice a' l.length c']] W fun e w' => e = .returned (.bool true) ∧ Below W.heap.size W w'))
    (HLs : Hid (∀ W, Below w.heap.size w W → Calls Try.prog 12 #[.int .i64 4, .agg #[.slice a h.length c, .slice a' l.length c']] W fun e w' => e = .returned (.int .i64 one) ∧ Below W.heap.size W w'))
    : Calls Try.prog 5 #[.agg #[.slice a h.length c, .slice a' l.length c'], .int .i64 n] w fun e w' => e = .returned (.bool true) ∧ Below w.heap.size w w' := by
  have f1 : (one != 0) = true := by simpa using h1
  have hb0 : ∀ o, Below w.heap.size w (w.alloc o) := fun o => (Below.refl _ _).alloc (Nat.le_refl _) o
  go_enter Try.func5, Try.ntmps5
  go_wp2_with fail
  refine (HL.out _ (hb0 _)).mono ?_
  rintro e w1 ⟨gx, gx', rfl, ox, ox', hb1⟩
  have lx := ox.lt
  have lx' := ox'.lt
  simp only [World.size_alloc] at lx lx'
  have s1 : w.heap.size < w1.heap.size := by have := hb1.size; simp at this; omega
  have B1 : Hid (Below w.heap.size w (w1.alloc (.cells #[.slice (some ⟨gx, 0, none⟩) h.length (h.length + 3), .slice (some ⟨gx', 0, none⟩) l.length (l.length + 3)] 30))) := bel_o ((hb0 _).trans (hb1.mono (by simp))) (by omega) _
  have X0 : Hid (Ints (w1.alloc (.cells #[.slice (some ⟨gx, 0, none⟩) h.length (h.length + 3), .slice (some ⟨gx', 0, none⟩) l.length (l.length + 3)] 30)) (some ⟨gx, 0, none⟩) h) := ox.ints.later (later_o _)
  have X1 : Hid (Ints (w1.alloc (.cells #[.slice (some ⟨gx, 0, none⟩) h.length (h.length + 3), .slice (some ⟨gx', 0, none⟩) l.length (l.length + 3)] 30)) (some ⟨gx', 0, none⟩) l) := ox'.ints.later (later_o _)
  have d0 : w1.cell? ⟨w.heap.size, 0, none⟩ = some (.slice a h.length c) := by rw [hb1.cell (by simp)]; go_simp
  have d1 : w1.cell? ⟨w.heap.size, 1, none⟩ = some (.slice a' l.length c') := by rw [hb1.cell (by simp)]; go_simp
  have A0 : Hid ((w1.alloc (.cells #[.slice (some ⟨gx, 0, none⟩) h.length (h.length + 3), .slice (some ⟨gx', 0, none⟩) l.length (l.length + 3)] 30)).cell? ⟨w.heap.size, 0, none⟩ = some (.slice a h.length c)) := ce_o d0 _
  have A1 : Hid ((w1.alloc (.cells #[.slice (some ⟨gx, 0, none⟩) h.length (h.length + 3), .slice (some ⟨gx', 0, none⟩) l.length (l.length + 3)] 30)).cell? ⟨w.heap.size, 1, none⟩ = some (.slice a' l.length c')) := ce_o d1 _
  have E0 : Hid ((w1.alloc (.cells #[.slice (some ⟨gx, 0, none⟩) h.length (h.length + 3), .slice (some ⟨gx', 0, none⟩) l.length (l.length + 3)] 30)).cell? ⟨w1.heap.size, 0, none⟩ = some (.slice (some ⟨gx, 0, none⟩) h.length (h.length + 3))) := by show _ = _; go_simp
  have E1 : Hid ((w1.alloc (.cells #[.slice (some ⟨gx, 0, none⟩) h.length (h.length + 3), .slice (some ⟨gx', 0, none⟩) l.length (l.length + 3)] 30)).cell? ⟨w1.heap.size, 1, none⟩ = some (.slice (some ⟨gx', 0, none⟩) l.length (l.length + 3))) := by show _ = _; go_simp
  clear hb1 ox ox' d0 d1
  go_wp2_with fail
  refine (HN.out _ _ _ X0.out X1.out).mono ?_
  rintro e w2 ⟨rfl, hb2⟩
  have s2 : w1.heap.size < w2.heap.size := by have := hb2.size; simp at this; omega
  have C2 : Hid (Below (w1.heap.size + 1) (w1.alloc (.cells #[.slice (some ⟨gx, 0, none⟩) h.length (h.length + 3), .slice (some ⟨gx', 0, none⟩) l.length (l.length + 3)] 30)) w2) := hb2.mono (by simp)
  have P0 : Hid ((w2.alloc (.cells #[.slice none 0 0, .slice none 0 0] 30)).cell? ⟨w2.heap.size, 0, none⟩ = some (.slice none 0 0)) := by show _ = _; go_simp
  have P1 : Hid ((w2.alloc (.cells #[.slice none 0 0, .slice none 0 0] 30)).cell? ⟨w2.heap.size, 1, none⟩ = some (.slice none 0 0)) := by show _ = _; go_simp
  have e02 := ce_o ((C2.out.cell (by simp)).trans E0.out)
  have e12 := ce_o ((C2.out.cell (by simp)).trans E1.out)
  have C2o : Hid (∀ o, Below (w1.heap.size + 1) (w1.alloc (.cells #[.slice (some ⟨gx, 0, none⟩) h.length (h.length + 3), .slice (some ⟨gx', 0, none⟩) l.length (l.length + 3)] 30)) (w2.alloc o)) := bel_o C2.out (by omega)
  clear hb2 
  go_wp2_with fail
  refine (HR.out _ _ _ (X0.out.later ((C2o.out _).mono (by simp))) (X1.out.later ((C2o.out _).mono (by simp)))).mono ?_
  rintro e w3 ⟨rfl, hb3⟩
  have s3 : w2.heap.size < w3.heap.size := by have := hb3.size; simp at this; omega
  have D3 : Hid (Below (w2.heap.size + 1) (w2.alloc (.cells #[.slice none 0 0, .slice none 0 0] 30)) w3) := hb3.mono (by simp)
  have C3 : Hid (Below (w1.heap.size + 1) (w1.alloc (.cells #[.slice (some ⟨gx, 0, none⟩) h.length (h.length + 3), .slice (some ⟨gx', 0, none⟩) l.length (l.length + 3)] 30)) w3) := (C2o.out _).trans (hb3.mono (by simp; omega))
  have Q0 : Hid ((w3.alloc (.cells #[.slice none 0 0, .slice none 0 0] 30)).cell? ⟨w3.heap.size, 0, none⟩ = some (.slice none 0 0)) := by show _ = _; go_simp
  have Q1 : Hid ((w3.alloc (.cells #[.slice none 0 0, .slice none 0 0] 30)).cell? ⟨w3.heap.size, 1, none⟩ = some (.slice none 0 0)) := by show _ = _; go_simp
  have e03 := ce_o ((C3.out.cell (by simp)).trans E0.out)
  have e13 := ce_o ((C3.out.cell (by simp)).trans E1.out)
  have a03 := ce_o ((C3.out.cell (by simp; omega)).trans A0.out)
  have a13 := ce_o ((C3.out.cell (by simp; omega)).trans A1.out)
  have C3o : Hid (∀ o, Below (w1.heap.size + 1) (w1.alloc (.cells #[.slice (some ⟨gx, 0, none⟩) h.length (h.length + 3), .slice (some ⟨gx', 0, none⟩) l.length (l.length + 3)] 30)) (w3.alloc o)) := bel_o C3.out (by omega)
  have D3o : Hid (∀ o, Below (w2.heap.size + 1) (w2.alloc (.cells #[.slice none 0 0, .slice none 0 0] 30)) (w3.alloc o)) := bel_o D3.out (by omega)
  clear hb3  e02 e12
  go_wp2_with fail
  refine (HX.out _ _ _ (X0.out.later ((C3o.out _).mono (by simp))) (X1.out.later ((C3o.out _).mono (by simp))) (B1.out.trans ((C3o.out _).mono (by omega)))).mono ?_
  rintro e w4 ⟨rfl, hb4⟩
  have s4 : w3.heap.size < w4.heap.size := by have := hb4.size; simp at this; omega
  have C4 : Hid (Below (w1.heap.size + 1) (w1.alloc (.cells #[.slice (some ⟨gx, 0, none⟩) h.length (h.length + 3), .slice (some ⟨gx', 0, none⟩) l.length (l.length + 3)] 30)) w4) := (C3o.out _).trans (hb4.mono (by simp; omega))
  have D4 : Hid (Below (w2.heap.size + 1) (w2.alloc (.cells #[.slice none 0 0, .slice none 0 0] 30)) w4) := (D3o.out _).trans (hb4.mono (by simp; omega))
  have G4 : Hid (Below (w3.heap.size + 1) (w3.alloc (.cells #[.slice none 0 0, .slice none 0 0] 30)) w4) := hb4.mono (by simp)
  clear hb4 e03 e13 a03 a13
  have a04 := (C4.out.cell (by simp; omega)).trans A0.out
  have a14 := (C4.out.cell (by simp; omega)).trans A1.out
  go_wp2_with fail
  refine (HLs.out _ (B1.out.trans (C4.out.mono (by omega)))).mono ?_
  rintro e w5 ⟨rfl, hb5⟩
  have s5 : w3.heap.size < w5.heap.size := Nat.lt_of_lt_of_le s4 hb5.size
  have C5 : Hid (Below (w1.heap.size + 1) (w1.alloc (.cells #[.slice (some ⟨gx, 0, none⟩) h.length (h.length + 3), .slice (some ⟨gx', 0, none⟩) l.length (l.length + 3)] 30)) w5) := C4.out.trans (hb5.mono (by omega))
  have D5 : Hid (Below (w2.heap.size + 1) (w2.alloc (.cells #[.slice none 0 0, .slice none 0 0] 30)) w5) := D4.out.trans (hb5.mono (by omega))
  have G5 : Hid (Below (w3.heap.size + 1) (w3.alloc (.cells #[.slice none 0 0, .slice none 0 0] 30)) w5) := G4.out.trans (hb5.mono (by omega))
  clear hb5 a04 a14 C4 D4 G4
  have p05 := (D5.out.cell (by simp)).trans P0.out
  have p15 := (D5.out.cell (by simp)).trans P1.out
  go_wp2_with fail
  refine (noLasso_any _ _ _ _ _ _ _ (by omega) (by omega)).mono ?_
  rintro e w6 ⟨rfl, hb6⟩
  have s6 : w3.heap.size < w6.heap.size := Nat.lt_of_lt_of_le s5 hb6.size
  have C6 : Hid (Below (w1.heap.size + 1) (w1.alloc (.cells #[.slice (some ⟨gx, 0, none⟩) h.length (h.length + 3), .slice (some ⟨gx', 0, none⟩) l.length (l.length + 3)] 30)) w6) := C5.out.trans (hb6.mono (by omega))
  have D6 : Hid (Below (w2.heap.size + 1) (w2.alloc (.cells #[.slice none 0 0, .slice none 0 0] 30)) w6) := D5.out.trans (hb6.mono (by omega))
  have G6 : Hid (Below (w3.heap.size + 1) (w3.alloc (.cells #[.slice none 0 0, .slice none 0 0] 30)) w6) := G5.out.trans (hb6.mono (by omega))
  clear hb6 p05 p15 C5 D5 G5
  have q06 := (G6.out.cell (by simp)).trans Q0.out
  have q16 := (G6.out.cell (by simp)).trans Q1.out
  go_wp2_with fail
  refine (noLasso_any _ _ _ _ _ _ _ (by omega) (by omega)).mono ?_
  rintro e w7 ⟨rfl, hb7⟩
  have s7 : w3.heap.size < w7.heap.size := Nat.lt_of_lt_of_le s6 hb7.size
  have C7 : Hid (Below (w1.heap.size + 1) (w1.alloc (.cells #[.slice (some ⟨gx, 0, none⟩) h.length (h.length + 3), .slice (some ⟨gx', 0, none⟩) l.length (l.length + 3)] 30)) w7) := C6.out.trans (hb7.mono (by omega))
  have D7 : Hid (Below (w2.heap.size + 1) (w2.alloc (.cells #[.slice none 0 0, .slice none 0 0] 30)) w7) := D6.out.trans (hb7.mono (by omega))
  have G7 : Hid (Below (w3.heap.size + 1) (w3.alloc (.cells #[.slice none 0 0, .slice none 0 0] 30)) w7) := G6.out.trans (hb7.mono (by omega))
  clear hb7 q06 q16 C6 D6 G6
  go_wp2
  go_ret
  exact ⟨by simp, B1.out.trans (C7.out.mono (by omega))⟩

set_option maxHeartbeats 4000000 in
theorem normal_B (n : Int) (a a' : Option Addr) (c c' : Nat) (h l : List Int) (w : World) (h1 : n < 0)
    (HL : Hid (∀ W, Below w.heap.size w W → Calls Try.prog 17 #[.agg #[.slice a h.length c, .slice a' l.length c']] W fun e w' => ∃ gx gx' : Nat, e = .returned (.agg #[.slice (some ⟨gx, 0, none⟩) h.length (h.length + 3), .slice (some ⟨gx', 0, none⟩) l.length (l.length + 3)]) ∧ Own W.heap.size w' (.slice (some ⟨gx, 0, none⟩) h.length (h.length + 3)) h ∧ Own W.heap.size w' (.slice (some ⟨gx', 0, none⟩) l.length (l.length + 3)) l ∧ Below W.heap.size W w'))
    (HN : Hid (∀ W (gx gx' : Nat), Ints W (some ⟨gx, 0, none⟩) h → Ints W (some ⟨gx', 0, none⟩) l → Calls Try.prog 18 #[.agg #[.slice (some ⟨gx, 0, none⟩) h.length (h.length + 3), .slice (some ⟨gx', 0, none⟩) l.length (l.length + 3)]] W fun e w' => ∃ p k g g' : Nat, e = .returned (.tuple #[.agg #[.slice (some ⟨g, 0, none⟩) k k, .slice (some ⟨g', 0, none⟩) p p], .int .i64 0]) ∧ IsShort (letF h l) W.heap.size w' p k g g' ∧ Below W.heap.size W w'))
    (HR : Hid (∀ W (gx gx' : Nat), Ints W (some ⟨gx, 0, none⟩) h → Ints W (some ⟨gx', 0, none⟩) l → Calls Try.prog 19 #[.agg #[.slice (some ⟨gx, 0, none⟩) h.length (h.length + 3), .slice (some ⟨gx', 0, none⟩) l.length (l.length + 3)], .int .i64 n] W fun e w' => e = .returned (.tuple #[.agg #[.slice none 0 0, .slice none 0 0], .int .i64 2]) ∧ Below W.heap.size W w'))
    (HX : Hid (∀ W (gx gx' : Nat), Ints W (some ⟨gx, 0, none⟩) h → Ints W (some ⟨gx', 0, none⟩) l → Below w.heap.size w W → Calls Try.prog 20 #[.agg #[.slice (some ⟨gx, 0, none⟩) h.length (h.length + 3), .slice (some ⟨gx', 0, none⟩) l.length (l.length + 3)], .agg #[.slice a h.length c, .slice a' l.length c']] W fun e w' => e = .returned (.bool true) ∧ Below W.heap.size W w'))
    (HLs : Hid (∀ W, Below w.heap.size w W → Calls Try.prog 12 #[.int .i64 4, .agg #[.slice a h.length c, .slice a' l.length c']] W fun e w' => e = .returned (.int .i64 0) ∧ Below W.heap.size W w'))
    (HL0 : Hid (∀ W, Below w.heap.size w W → Calls Try.prog 22 #[.agg #[.slice a h.length c, .slice a' l.length c'], .int .i64 0] W fun e w' => ∃ (p k : Nat) (a0 : Option Addr) (d0 : Nat) (a1 : Option Addr) (d1 : Nat), e = .returned (.agg #[.slice a0 k d0, .slice a1 p d1]) ∧ Shortest (letF h l) k p ∧ k ≤ 60 ∧ p ≤ 60 ∧ Ints w' a0 (pieceOf (letF h l) 0 k) ∧ Ints w' a1 (pieceOf (letF h l) k p) ∧ Below W.heap.size W w'))
    : Calls Try.prog 5 #[.agg #[.slice a h.length c, .slice a' l.length c'], .int .i64 n] w fun e w' => e = .returned (.bool true) ∧ Below w.heap.size w w' := by
  have hb0 : ∀ o, Below w.heap.size w (w.alloc o) := fun o => (Below.refl _ _).alloc (Nat.le_refl _) o
  go_enter Try.func5, Try.ntmps5
  go_wp2_with fail
  refine (HL.out _ (hb0 _)).mono ?_
  rintro e w1 ⟨gx, gx', rfl, ox, ox', hb1⟩
  have lx := ox.lt
  have lx' := ox'.lt
  simp only [World.size_alloc] at lx lx'
  have s1 : w.heap.size < w1.heap.size := by have := hb1.size; simp at this; omega
  have B1 : Hid (Below w.heap.size w (w1.alloc (.cells #[.slice (some ⟨gx, 0, none⟩) h.length (h.length + 3), .slice (some ⟨gx', 0, none⟩) l.length (l.length + 3)] 30))) := bel_o ((hb0 _).trans (hb1.mono (by simp))) (by omega) _
  have X0 : Hid (Ints (w1.alloc (.cells #[.slice (some ⟨gx, 0, none⟩) h.length (h.length + 3), .slice (some ⟨gx', 0, none⟩) l.length (l.length + 3)] 30)) (some ⟨gx, 0, none⟩) h) := ox.ints.later (later_o _)
  have X1 : Hid (Ints (w1.alloc (.cells #[.slice (some ⟨gx, 0, none⟩) h.length (h.length + 3), .slice (some ⟨gx', 0, none⟩) l.length (l.length + 3)] 30)) (some ⟨gx', 0, none⟩) l) := ox'.ints.later (later_o _)
  have d0 : w1.cell? ⟨w.heap.size, 0, none⟩ = some (.slice a h.length c) := by rw [hb1.cell (by simp)]; go_simp
  have d1 : w1.cell? ⟨w.heap.size, 1, none⟩ = some (.slice a' l.length c') := by rw [hb1.cell (by simp)]; go_simp
  have A0 : Hid ((w1.alloc (.cells #[.slice (some ⟨gx, 0, none⟩) h.length (h.length + 3), .slice (some ⟨gx', 0, none⟩) l.length (l.length + 3)] 30)).cell? ⟨w.heap.size, 0, none⟩ = some (.slice a h.length c)) := ce_o d0 _
  have A1 : Hid ((w1.alloc (.cells #[.slice (some ⟨gx, 0, none⟩) h.length (h.length + 3), .slice (some ⟨gx', 0, none⟩) l.length (l.length + 3)] 30)).cell? ⟨w.heap.size, 1, none⟩ = some (.slice a' l.length c')) := ce_o d1 _
  have E0 : Hid ((w1.alloc (.cells #[.slice (some ⟨gx, 0, none⟩) h.length (h.length + 3), .slice (some ⟨gx', 0, none⟩) l.length (l.length + 3)] 30)).cell? ⟨w1.heap.size, 0, none⟩ = some (.slice (some ⟨gx, 0, none⟩) h.length (h.length + 3))) := by show _ = _; go_simp
  have E1 : Hid ((w1.alloc (.cells #[.slice (some ⟨gx, 0, none⟩) h.length (h.length + 3), .slice (some ⟨gx', 0, none⟩) l.length (l.length + 3)] 30)).cell? ⟨w1.heap.size, 1, none⟩ = some (.slice (some ⟨gx', 0, none⟩) l.length (l.length + 3))) := by show _ = _; go_simp
  clear hb1 ox ox' d0 d1
  go_wp2_with fail
  refine (HN.out _ _ _ X0.out X1.out).mono ?_
  rintro e w2 ⟨p, k, gp, gp', rfl, ip, hb2⟩
  have s2 : w1.heap.size < w2.heap.size := by have := hb2.size; simp at this; omega
  have C2 : Hid (Below (w1.heap.size + 1) (w1.alloc (.cells #[.slice (some ⟨gx, 0, none⟩) h.length (h.length + 3), .slice (some ⟨gx', 0, none⟩) l.length (l.length + 3)] 30)) w2) := hb2.mono (by simp)
  have lp := ip.head.lt
  have lp' := ip.loop.lt
  simp only [World.size_alloc] at lp lp'
  have IP : Hid (IsShort (letF h l) _ (w2.alloc (.cells #[.slice (some ⟨gp, 0, none⟩) k k, .slice (some ⟨gp', 0, none⟩) p p] 30)) p k gp gp') := ip.later (later_o _)
  have k60 : k ≤ 60 := ip.k60
  have p60 : p ≤ 60 := ip.p60
  have P0 : Hid ((w2.alloc (.cells #[.slice (some ⟨gp, 0, none⟩) k k, .slice (some ⟨gp', 0, none⟩) p p] 30)).cell? ⟨w2.heap.size, 0, none⟩ = some (.slice (some ⟨gp, 0, none⟩) k k)) := by show _ = _; go_simp
  have P1 : Hid ((w2.alloc (.cells #[.slice (some ⟨gp, 0, none⟩) k k, .slice (some ⟨gp', 0, none⟩) p p] 30)).cell? ⟨w2.heap.size, 1, none⟩ = some (.slice (some ⟨gp', 0, none⟩) p p)) := by show _ = _; go_simp
  have e02 := ce_o ((C2.out.cell (by simp)).trans E0.out)
  have e12 := ce_o ((C2.out.cell (by simp)).trans E1.out)
  have C2o : Hid (∀ o, Below (w1.heap.size + 1) (w1.alloc (.cells #[.slice (some ⟨gx, 0, none⟩) h.length (h.length + 3), .slice (some ⟨gx', 0, none⟩) l.length (l.length + 3)] 30)) (w2.alloc o)) := bel_o C2.out (by omega)
  clear hb2 ip
  go_wp2_with fail
  refine (HR.out _ _ _ (X0.out.later ((C2o.out _).mono (by simp))) (X1.out.later ((C2o.out _).mono (by simp)))).mono ?_
  rintro e w3 ⟨rfl, hb3⟩
  have s3 : w2.heap.size < w3.heap.size := by have := hb3.size; simp at this; omega
  have D3 : Hid (Below (w2.heap.size + 1) (w2.alloc (.cells #[.slice (some ⟨gp, 0, none⟩) k k, .slice (some ⟨gp', 0, none⟩) p p] 30)) w3) := hb3.mono (by simp)
  have C3 : Hid (Below (w1.heap.size + 1) (w1.alloc (.cells #[.slice (some ⟨gx, 0, none⟩) h.length (h.length + 3), .slice (some ⟨gx', 0, none⟩) l.length (l.length + 3)] 30)) w3) := (C2o.out _).trans (hb3.mono (by simp; omega))
  have Q0 : Hid ((w3.alloc (.cells #[.slice none 0 0, .slice none 0 0] 30)).cell? ⟨w3.heap.size, 0, none⟩ = some (.slice none 0 0)) := by show _ = _; go_simp
  have Q1 : Hid ((w3.alloc (.cells #[.slice none 0 0, .slice none 0 0] 30)).cell? ⟨w3.heap.size, 1, none⟩ = some (.slice none 0 0)) := by show _ = _; go_simp
  have e03 := ce_o ((C3.out.cell (by simp)).trans E0.out)
  have e13 := ce_o ((C3.out.cell (by simp)).trans E1.out)
  have a03 := ce_o ((C3.out.cell (by simp; omega)).trans A0.out)
  have a13 := ce_o ((C3.out.cell (by simp; omega)).trans A1.out)
  have C3o : Hid (∀ o, Below (w1.heap.size + 1) (w1.alloc (.cells #[.slice (some ⟨gx, 0, none⟩) h.length (h.length + 3), .slice (some ⟨gx', 0, none⟩) l.length (l.length + 3)] 30)) (w3.alloc o)) := bel_o C3.out (by omega)
  have D3o : Hid (∀ o, Below (w2.heap.size + 1) (w2.alloc (.cells #[.slice (some ⟨gp, 0, none⟩) k k, .slice (some ⟨gp', 0, none⟩) p p] 30)) (w3.alloc o)) := bel_o D3.out (by omega)
  clear hb3  e02 e12
  go_wp2_with fail
  refine (HX.out _ _ _ (X0.out.later ((C3o.out _).mono (by simp))) (X1.out.later ((C3o.out _).mono (by simp))) (B1.out.trans ((C3o.out _).mono (by omega)))).mono ?_
  rintro e w4 ⟨rfl, hb4⟩
  have s4 : w3.heap.size < w4.heap.size := by have := hb4.size; simp at this; omega
  have C4 : Hid (Below (w1.heap.size + 1) (w1.alloc (.cells #[.slice (some ⟨gx, 0, none⟩) h.length (h.length + 3), .slice (some ⟨gx', 0, none⟩) l.length (l.length + 3)] 30)) w4) := (C3o.out _).trans (hb4.mono (by simp; omega))
  have D4 : Hid (Below (w2.heap.size + 1) (w2.alloc (.cells #[.slice (some ⟨gp, 0, none⟩) k k, .slice (some ⟨gp', 0, none⟩) p p] 30)) w4) := (D3o.out _).trans (hb4.mono (by simp; omega))
  have G4 : Hid (Below (w3.heap.size + 1) (w3.alloc (.cells #[.slice none 0 0, .slice none 0 0] 30)) w4) := hb4.mono (by simp)
  clear hb4 e03 e13 a03 a13
  have a04 := (C4.out.cell (by simp; omega)).trans A0.out
  have a14 := (C4.out.cell (by simp; omega)).trans A1.out
  go_wp2_with fail
  refine (HLs.out _ (B1.out.trans (C4.out.mono (by omega)))).mono ?_
  rintro e w5 ⟨rfl, hb5⟩
  have s5 : w3.heap.size < w5.heap.size := Nat.lt_of_lt_of_le s4 hb5.size
  have C5 : Hid (Below (w1.heap.size + 1) (w1.alloc (.cells #[.slice (some ⟨gx, 0, none⟩) h.length (h.length + 3), .slice (some ⟨gx', 0, none⟩) l.length (l.length + 3)] 30)) w5) := C4.out.trans (hb5.mono (by omega))
  have D5 : Hid (Below (w2.heap.size + 1) (w2.alloc (.cells #[.slice (some ⟨gp, 0, none⟩) k k, .slice (some ⟨gp', 0, none⟩) p p] 30)) w5) := D4.out.trans (hb5.mono (by omega))
  have G5 : Hid (Below (w3.heap.size + 1) (w3.alloc (.cells #[.slice none 0 0, .slice none 0 0] 30)) w5) := G4.out.trans (hb5.mono (by omega))
  clear hb5 a04 a14 C4 D4 G4
  have p05 := (D5.out.cell (by simp)).trans P0.out
  have p15 := (D5.out.cell (by simp)).trans P1.out
  go_wp2_with fail
  refine (noLasso_any _ _ _ _ _ _ _ (by omega) (by omega)).mono ?_
  rintro e w6 ⟨rfl, hb6⟩
  have s6 : w3.heap.size < w6.heap.size := Nat.lt_of_lt_of_le s5 hb6.size
  have C6 : Hid (Below (w1.heap.size + 1) (w1.alloc (.cells #[.slice (some ⟨gx, 0, none⟩) h.length (h.length + 3), .slice (some ⟨gx', 0, none⟩) l.length (l.length + 3)] 30)) w6) := C5.out.trans (hb6.mono (by omega))
  have D6 : Hid (Below (w2.heap.size + 1) (w2.alloc (.cells #[.slice (some ⟨gp, 0, none⟩) k k, .slice (some ⟨gp', 0, none⟩) p p] 30)) w6) := D5.out.trans (hb6.mono (by omega))
  have G6 : Hid (Below (w3.heap.size + 1) (w3.alloc (.cells #[.slice none 0 0, .slice none 0 0] 30)) w6) := G5.out.trans (hb6.mono (by omega))
  clear hb6 p05 p15 C5 D5 G5
  have q06 := (G6.out.cell (by simp)).trans Q0.out
  have q16 := (G6.out.cell (by simp)).trans Q1.out
  go_wp2_with fail
  refine (noLasso_any _ _ _ _ _ _ _ (by omega) (by omega)).mono ?_
  rintro e w7 ⟨rfl, hb7⟩
  have s7 : w3.heap.size < w7.heap.size := Nat.lt_of_lt_of_le s6 hb7.size
  have C7 : Hid (Below (w1.heap.size + 1) (w1.alloc (.cells #[.slice (some ⟨gx, 0, none⟩) h.length (h.length + 3), .slice (some ⟨gx', 0, none⟩) l.length (l.length + 3)] 30)) w7) := C6.out.trans (hb7.mono (by omega))
  have D7 : Hid (Below (w2.heap.size + 1) (w2.alloc (.cells #[.slice (some ⟨gp, 0, none⟩) k k, .slice (some ⟨gp', 0, none⟩) p p] 30)) w7) := D6.out.trans (hb7.mono (by omega))
  have G7 : Hid (Below (w3.heap.size + 1) (w3.alloc (.cells #[.slice none 0 0, .slice none 0 0] 30)) w7) := G6.out.trans (hb7.mono (by omega))
  clear hb7 q06 q16 C6 D6 G6
  have a07 := (C7.out.cell (by simp; omega)).trans A0.out
  have a17 := (C7.out.cell (by simp; omega)).trans A1.out
  go_wp2_with fail
  refine (HL0.out _ (B1.out.trans (C7.out.mono (by omega)))).mono ?_
  rintro e w8 ⟨p8, k8, a0, d0, a1, d1, rfl, sh8, _, _, i8, j8, hb8⟩
  obtain ⟨ek, ep⟩ := sh8.unique IP.out.sh
  subst ek ep
  have s8 : w3.heap.size < w8.heap.size := Nat.lt_of_lt_of_le s7 hb8.size
  have C8 : Hid (Below (w1.heap.size + 1) (w1.alloc (.cells #[.slice (some ⟨gx, 0, none⟩) h.length (h.length + 3), .slice (some ⟨gx', 0, none⟩) l.length (l.length + 3)] 30)) w8) := C7.out.trans (hb8.mono (by omega))
  have D8 : Hid (Below (w2.heap.size + 1) (w2.alloc (.cells #[.slice (some ⟨gp, 0, none⟩) k8 k8, .slice (some ⟨gp', 0, none⟩) p8 p8] 30)) w8) := D7.out.trans (hb8.mono (by omega))
  have G8 : Hid (Below (w3.heap.size + 1) (w3.alloc (.cells #[.slice none 0 0, .slice none 0 0] 30)) w8) := G7.out.trans (hb8.mono (by omega))
  clear hb8 a07 a17 C7 D7 G7 sh8
  have p08 := ce_o ((D8.out.cell (by simp)).trans P0.out)
  have p18 := ce_o ((D8.out.cell (by simp)).trans P1.out)
  have I8 : Hid (∀ o, Ints (w8.alloc o) a0 (pieceOf (letF h l) 0 k8)) := fun o => i8.later (later_o o)
  have J8 : Hid (∀ o, Ints (w8.alloc o) a1 (pieceOf (letF h l) k8 p8)) := fun o => j8.later (later_o o)
  have C8o : Hid (∀ o, Below (w1.heap.size + 1) (w1.alloc (.cells #[.slice (some ⟨gx, 0, none⟩) h.length (h.length + 3), .slice (some ⟨gx', 0, none⟩) l.length (l.length + 3)] 30)) (w8.alloc o)) := bel_o C8.out (by omega)
  have D8o : Hid (∀ o, Below (w2.heap.size + 1) (w2.alloc (.cells #[.slice (some ⟨gp, 0, none⟩) k8 k8, .slice (some ⟨gp', 0, none⟩) p8 p8] 30)) (w8.alloc o)) := bel_o D8.out (by omega)
  have G8o : Hid (∀ o, Below (w3.heap.size + 1) (w3.alloc (.cells #[.slice none 0 0, .slice none 0 0] 30)) (w8.alloc o)) := bel_o G8.out (by omega)
  clear i8 j8
  go_wp2_with fail
  refine (alike_true _ _ _ _ _ _ _ _ _ _ (pieceOf (letF h l) 0 k8) (pieceOf (letF h l) k8 p8) _ (IP.out.head.ints.later ((D8o.out _).mono (by simp))) (IP.out.loop.ints.later ((D8o.out _).mono (by simp))) (I8.out _) (J8.out _) (length_pieceOf _ _ _) (length_pieceOf _ _ _) (by rw [length_pieceOf]; unfold maxLen; omega) (by rw [length_pieceOf]; unfold maxLen; omega)).mono ?_
  rintro e w9 ⟨rfl, hb9⟩
  have s9 : w8.heap.size < w9.heap.size := by have := hb9.size; simp at this; omega
  have C9 : Hid (Below (w1.heap.size + 1) (w1.alloc (.cells #[.slice (some ⟨gx, 0, none⟩) h.length (h.length + 3), .slice (some ⟨gx', 0, none⟩) l.length (l.length + 3)] 30)) w9) := (C8o.out _).trans (hb9.mono (by simp; omega))
  have D9 : Hid (Below (w2.heap.size + 1) (w2.alloc (.cells #[.slice (some ⟨gp, 0, none⟩) k8 k8, .slice (some ⟨gp', 0, none⟩) p8 p8] 30)) w9) := (D8o.out _).trans (hb9.mono (by simp; omega))
  have G9 : Hid (Below (w3.heap.size + 1) (w3.alloc (.cells #[.slice none 0 0, .slice none 0 0] 30)) w9) := (G8o.out _).trans (hb9.mono (by simp; omega))
  clear hb9
  go_wp2
  go_ret
  exact ⟨by simp, B1.out.trans (C9.out.mono (by omega))⟩

set_option maxHeartbeats 4000000 in
theorem normal_C (n : Nat) (a a' : Option Addr) (c c' : Nat) (h l : List Int) (w : World) (hn : (n : Int) ≤ 9223372036854775807)
    (HL : Hid (∀ W, Below w.heap.size w W → Calls Try.prog 17 #[.agg #[.slice a h.length c, .slice a' l.length c']] W fun e w' => ∃ gx gx' : Nat, e = .returned (.agg #[.slice (some ⟨gx, 0, none⟩) h.length (h.length + 3), .slice (some ⟨gx', 0, none⟩) l.length (l.length + 3)]) ∧ Own W.heap.size w' (.slice (some ⟨gx, 0, none⟩) h.length (h.length + 3)) h ∧ Own W.heap.size w' (.slice (some ⟨gx', 0, none⟩) l.length (l.length + 3)) l ∧ Below W.heap.size W w'))
    (HN : Hid (∀ W (gx gx' : Nat), Ints W (some ⟨gx, 0, none⟩) h → Ints W (some ⟨gx', 0, none⟩) l → Calls Try.prog 18 #[.agg #[.slice (some ⟨gx, 0, none⟩) h.length (h.length + 3), .slice (some ⟨gx', 0, none⟩) l.length (l.length + 3)]] W fun e w' => ∃ p k g g' : Nat, e = .returned (.tuple #[.agg #[.slice (some ⟨g, 0, none⟩) k k, .slice (some ⟨g', 0, none⟩) p p], .int .i64 0]) ∧ IsShort (letF h l) W.heap.size w' p k g g' ∧ Below W.heap.size W w'))
    (HR : Hid (∀ W (gx gx' : Nat), Ints W (some ⟨gx, 0, none⟩) h → Ints W (some ⟨gx', 0, none⟩) l → Calls Try.prog 19 #[.agg #[.slice (some ⟨gx, 0, none⟩) h.length (h.length + 3), .slice (some ⟨gx', 0, none⟩) l.length (l.length + 3)], .int .i64 n] W fun e w' => ∃ p k g g' : Nat, e = .returned (.tuple #[.agg #[.slice (some ⟨g, 0, none⟩) k k, .slice (some ⟨g', 0, none⟩) p p], .int .i64 0]) ∧ IsShort (fun j => letF h l (n + j)) W.heap.size w' p k g g' ∧ Below W.heap.size W w'))
    (HX : Hid (∀ W (gx gx' : Nat), Ints W (some ⟨gx, 0, none⟩) h → Ints W (some ⟨gx', 0, none⟩) l → Below w.heap.size w W → Calls Try.prog 20 #[.agg #[.slice (some ⟨gx, 0, none⟩) h.length (h.length + 3), .slice (some ⟨gx', 0, none⟩) l.length (l.length + 3)], .agg #[.slice a h.length c, .slice a' l.length c']] W fun e w' => e = .returned (.bool true) ∧ Below W.heap.size W w'))
    (HLs : Hid (∀ W, Below w.heap.size w W → Calls Try.prog 12 #[.int .i64 4, .agg #[.slice a h.length c, .slice a' l.length c']] W fun e w' => e = .returned (.int .i64 0) ∧ Below W.heap.size W w'))
    (HL0 : Hid (∀ W, Below w.heap.size w W → Calls Try.prog 22 #[.agg #[.slice a h.length c, .slice a' l.length c'], .int .i64 0] W fun e w' => ∃ (p k : Nat) (a0 : Option Addr) (d0 : Nat) (a1 : Option Addr) (d1 : Nat), e = .returned (.agg #[.slice a0 k d0, .slice a1 p d1]) ∧ Shortest (letF h l) k p ∧ k ≤ 60 ∧ p ≤ 60 ∧ Ints w' a0 (pieceOf (letF h l) 0 k) ∧ Ints w' a1 (pieceOf (letF h l) k p) ∧ Below W.heap.size W w'))
    (HLn : Hid (∀ W, Below w.heap.size w W → Calls Try.prog 22 #[.agg #[.slice a h.length c, .slice a' l.length c'], .int .i64 n] W fun e w' => ∃ (p k : Nat) (a0 : Option Addr) (d0 : Nat) (a1 : Option Addr) (d1 : Nat), e = .returned (.agg #[.slice a0 k d0, .slice a1 p d1]) ∧ Shortest (fun j => letF h l (n + j)) k p ∧ k ≤ 60 ∧ p ≤ 60 ∧ Ints w' a0 (pieceOf (fun j => letF h l (n + j)) 0 k) ∧ Ints w' a1 (pieceOf (fun j => letF h l (n + j)) k p) ∧ Below W.heap.size W w'))
    : Calls Try.prog 5 #[.agg #[.slice a h.length c, .slice a' l.length c'], .int .i64 n] w fun e w' => e = .returned (.bool true) ∧ Below w.heap.size w w' := by
  have hb0 : ∀ o, Below w.heap.size w (w.alloc o) := fun o => (Below.refl _ _).alloc (Nat.le_refl _) o
  go_enter Try.func5, Try.ntmps5
  go_wp2_with fail
  refine (HL.out _ (hb0 _)).mono ?_
  rintro e w1 ⟨gx, gx', rfl, ox, ox', hb1⟩
  have lx := ox.lt
  have lx' := ox'.lt
  simp only [World.size_alloc] at lx lx'
  have s1 : w.heap.size < w1.heap.size := by have := hb1.size; simp at this; omega
  have B1 : Hid (Below w.heap.size w (w1.alloc (.cells #[.slice (some ⟨gx, 0, none⟩) h.length (h.length + 3), .slice (some ⟨gx', 0, none⟩) l.length (l.length + 3)] 30))) := bel_o ((hb0 _).trans (hb1.mono (by simp))) (by omega) _
  have X0 : Hid (Ints (w1.alloc (.cells #[.slice (some ⟨gx, 0, none⟩) h.length (h.length + 3), .slice (some ⟨gx', 0, none⟩) l.length (l.length + 3)] 30)) (some ⟨gx, 0, none⟩) h) := ox.ints.later (later_o _)
  have X1 : Hid (Ints (w1.alloc (.cells #[.slice (some ⟨gx, 0, none⟩) h.length (h.length + 3), .slice (some ⟨gx', 0, none⟩) l.length (l.length + 3)] 30)) (some ⟨gx', 0, none⟩) l) := ox'.ints.later (later_o _)
  have d0 : w1.cell? ⟨w.heap.size, 0, none⟩ = some (.slice a h.length c) := by rw [hb1.cell (by simp)]; go_simp
  have d1 : w1.cell? ⟨w.heap.size, 1, none⟩ = some (.slice a' l.length c') := by rw [hb1.cell (by simp)]; go_simp
  have A0 : Hid ((w1.alloc (.cells #[.slice (some ⟨gx, 0, none⟩) h.length (h.length + 3), .slice (some ⟨gx', 0, none⟩) l.length (l.length + 3)] 30)).cell? ⟨w.heap.size, 0, none⟩ = some (.slice a h.length c)) := ce_o d0 _
  have A1 : Hid ((w1.alloc (.cells #[.slice (some ⟨gx, 0, none⟩) h.length (h.length + 3), .slice (some ⟨gx', 0, none⟩) l.length (l.length + 3)] 30)).cell? ⟨w.heap.size, 1, none⟩ = some (.slice a' l.length c')) := ce_o d1 _
  have E0 : Hid ((w1.alloc (.cells #[.slice (some ⟨gx, 0, none⟩) h.length (h.length + 3), .slice (some ⟨gx', 0, none⟩) l.length (l.length + 3)] 30)).cell? ⟨w1.heap.size, 0, none⟩ = some (.slice (some ⟨gx, 0, none⟩) h.length (h.length + 3))) := by show _ = _; go_simp
  have E1 : Hid ((w1.alloc (.cells #[.slice (some ⟨gx, 0, none⟩) h.length (h.length + 3), .slice (some ⟨gx', 0, none⟩) l.length (l.length + 3)] 30)).cell? ⟨w1.heap.size, 1, none⟩ = some (.slice (some ⟨gx', 0, none⟩) l.length (l.length + 3))) := by show _ = _; go_simp
  clear hb1 ox ox' d0 d1
  go_wp2_with fail
  refine (HN.out _ _ _ X0.out X1.out).mono ?_
  rintro e w2 ⟨p, k, gp, gp', rfl, ip, hb2⟩
  have s2 : w1.heap.size < w2.heap.size := by have := hb2.size; simp at this; omega
  have C2 : Hid (Below (w1.heap.size + 1) (w1.alloc (.cells #[.slice (some ⟨gx, 0, none⟩) h.length (h.length + 3), .slice (some ⟨gx', 0, none⟩) l.length (l.length + 3)] 30)) w2) := hb2.mono (by simp)
  have lp := ip.head.lt
  have lp' := ip.loop.lt
  simp only [World.size_alloc] at lp lp'
  have IP : Hid (IsShort (letF h l) _ (w2.alloc (.cells #[.slice (some ⟨gp, 0, none⟩) k k, .slice (some ⟨gp', 0, none⟩) p p] 30)) p k gp gp') := ip.later (later_o _)
  have k60 : k ≤ 60 := ip.k60
  have p60 : p ≤ 60 := ip.p60
  have P0 : Hid ((w2.alloc (.cells #[.slice (some ⟨gp, 0, none⟩) k k, .slice (some ⟨gp', 0, none⟩) p p] 30)).cell? ⟨w2.heap.size, 0, none⟩ = some (.slice (some ⟨gp, 0, none⟩) k k)) := by show _ = _; go_simp
  have P1 : Hid ((w2.alloc (.cells #[.slice (some ⟨gp, 0, none⟩) k k, .slice (some ⟨gp', 0, none⟩) p p] 30)).cell? ⟨w2.heap.size, 1, none⟩ = some (.slice (some ⟨gp', 0, none⟩) p p)) := by show _ = _; go_simp
  have e02 := ce_o ((C2.out.cell (by simp)).trans E0.out)
  have e12 := ce_o ((C2.out.cell (by simp)).trans E1.out)
  have C2o : Hid (∀ o, Below (w1.heap.size + 1) (w1.alloc (.cells #[.slice (some ⟨gx, 0, none⟩) h.length (h.length + 3), .slice (some ⟨gx', 0, none⟩) l.length (l.length + 3)] 30)) (w2.alloc o)) := bel_o C2.out (by omega)
  clear hb2 ip
  go_wp2_with fail
  refine (HR.out _ _ _ (X0.out.later ((C2o.out _).mono (by simp))) (X1.out.later ((C2o.out _).mono (by simp)))).mono ?_
  rintro e w3 ⟨pq, kq, gq, gq', rfl, iq, hb3⟩
  have s3 : w2.heap.size < w3.heap.size := by have := hb3.size; simp at this; omega
  have D3 : Hid (Below (w2.heap.size + 1) (w2.alloc (.cells #[.slice (some ⟨gp, 0, none⟩) k k, .slice (some ⟨gp', 0, none⟩) p p] 30)) w3) := hb3.mono (by simp)
  have C3 : Hid (Below (w1.heap.size + 1) (w1.alloc (.cells #[.slice (some ⟨gx, 0, none⟩) h.length (h.length + 3), .slice (some ⟨gx', 0, none⟩) l.length (l.length + 3)] 30)) w3) := (C2o.out _).trans (hb3.mono (by simp; omega))
  have lq := iq.head.lt
  have lq' := iq.loop.lt
  simp only [World.size_alloc] at lq lq'
  have IQ : Hid (IsShort (fun j => letF h l (n + j)) _ (w3.alloc (.cells #[.slice (some ⟨gq, 0, none⟩) kq kq, .slice (some ⟨gq', 0, none⟩) pq pq] 30)) pq kq gq gq') := iq.later (later_o _)
  have kq60 : kq ≤ 60 := iq.k60
  have pq60 : pq ≤ 60 := iq.p60
  have Q0 : Hid ((w3.alloc (.cells #[.slice (some ⟨gq, 0, none⟩) kq kq, .slice (some ⟨gq', 0, none⟩) pq pq] 30)).cell? ⟨w3.heap.size, 0, none⟩ = some (.slice (some ⟨gq, 0, none⟩) kq kq)) := by show _ = _; go_simp
  have Q1 : Hid ((w3.alloc (.cells #[.slice (some ⟨gq, 0, none⟩) kq kq, .slice (some ⟨gq', 0, none⟩) pq pq] 30)).cell? ⟨w3.heap.size, 1, none⟩ = some (.slice (some ⟨gq', 0, none⟩) pq pq)) := by show _ = _; go_simp
  have e03 := ce_o ((C3.out.cell (by simp)).trans E0.out)
  have e13 := ce_o ((C3.out.cell (by simp)).trans E1.out)
  have a03 := ce_o ((C3.out.cell (by simp; omega)).trans A0.out)
  have a13 := ce_o ((C3.out.cell (by simp; omega)).trans A1.out)
  have C3o : Hid (∀ o, Below (w1.heap.size + 1) (w1.alloc (.cells #[.slice (some ⟨gx, 0, none⟩) h.length (h.length + 3), .slice (some ⟨gx', 0, none⟩) l.length (l.length + 3)] 30)) (w3.alloc o)) := bel_o C3.out (by omega)
  have D3o : Hid (∀ o, Below (w2.heap.size + 1) (w2.alloc (.cells #[.slice (some ⟨gp, 0, none⟩) k k, .slice (some ⟨gp', 0, none⟩) p p] 30)) (w3.alloc o)) := bel_o D3.out (by omega)
  clear hb3 iq e02 e12
  go_wp2_with fail
  refine (HX.out _ _ _ (X0.out.later ((C3o.out _).mono (by simp))) (X1.out.later ((C3o.out _).mono (by simp))) (B1.out.trans ((C3o.out _).mono (by omega)))).mono ?_
  rintro e w4 ⟨rfl, hb4⟩
  have s4 : w3.heap.size < w4.heap.size := by have := hb4.size; simp at this; omega
  have C4 : Hid (Below (w1.heap.size + 1) (w1.alloc (.cells #[.slice (some ⟨gx, 0, none⟩) h.length (h.length + 3), .slice (some ⟨gx', 0, none⟩) l.length (l.length + 3)] 30)) w4) := (C3o.out _).trans (hb4.mono (by simp; omega))
  have D4 : Hid (Below (w2.heap.size + 1) (w2.alloc (.cells #[.slice (some ⟨gp, 0, none⟩) k k, .slice (some ⟨gp', 0, none⟩) p p] 30)) w4) := (D3o.out _).trans (hb4.mono (by simp; omega))
  have G4 : Hid (Below (w3.heap.size + 1) (w3.alloc (.cells #[.slice (some ⟨gq, 0, none⟩) kq kq, .slice (some ⟨gq', 0, none⟩) pq pq] 30)) w4) := hb4.mono (by simp)
  clear hb4 e03 e13 a03 a13
  have a04 := (C4.out.cell (by simp; omega)).trans A0.out
  have a14 := (C4.out.cell (by simp; omega)).trans A1.out
  go_wp2_with fail
  refine (HLs.out _ (B1.out.trans (C4.out.mono (by omega)))).mono ?_
  rintro e w5 ⟨rfl, hb5⟩
  have s5 : w3.heap.size < w5.heap.size := Nat.lt_of_lt_of_le s4 hb5.size
  have C5 : Hid (Below (w1.heap.size + 1) (w1.alloc (.cells #[.slice (some ⟨gx, 0, none⟩) h.length (h.length + 3), .slice (some ⟨gx', 0, none⟩) l.length (l.length + 3)] 30)) w5) := C4.out.trans (hb5.mono (by omega))
  have D5 : Hid (Below (w2.heap.size + 1) (w2.alloc (.cells #[.slice (some ⟨gp, 0, none⟩) k k, .slice (some ⟨gp', 0, none⟩) p p] 30)) w5) := D4.out.trans (hb5.mono (by omega))
  have G5 : Hid (Below (w3.heap.size + 1) (w3.alloc (.cells #[.slice (some ⟨gq, 0, none⟩) kq kq, .slice (some ⟨gq', 0, none⟩) pq pq] 30)) w5) := G4.out.trans (hb5.mono (by omega))
  clear hb5 a04 a14 C4 D4 G4
  have p05 := (D5.out.cell (by simp)).trans P0.out
  have p15 := (D5.out.cell (by simp)).trans P1.out
  go_wp2_with fail
  refine (noLasso_any _ _ _ _ _ _ _ (by omega) (by omega)).mono ?_
  rintro e w6 ⟨rfl, hb6⟩
  have s6 : w3.heap.size < w6.heap.size := Nat.lt_of_lt_of_le s5 hb6.size
  have C6 : Hid (Below (w1.heap.size + 1) (w1.alloc (.cells #[.slice (some ⟨gx, 0, none⟩) h.length (h.length + 3), .slice (some ⟨gx', 0, none⟩) l.length (l.length + 3)] 30)) w6) := C5.out.trans (hb6.mono (by omega))
  have D6 : Hid (Below (w2.heap.size + 1) (w2.alloc (.cells #[.slice (some ⟨gp, 0, none⟩) k k, .slice (some ⟨gp', 0, none⟩) p p] 30)) w6) := D5.out.trans (hb6.mono (by omega))
  have G6 : Hid (Below (w3.heap.size + 1) (w3.alloc (.cells #[.slice (some ⟨gq, 0, none⟩) kq kq, .slice (some ⟨gq', 0, none⟩) pq pq] 30)) w6) := G5.out.trans (hb6.mono (by omega))
  clear hb6 p05 p15 C5 D5 G5
  have q06 := (G6.out.cell (by simp)).trans Q0.out
  have q16 := (G6.out.cell (by simp)).trans Q1.out
  go_wp2_with fail
  refine (noLasso_any _ _ _ _ _ _ _ (by omega) (by omega)).mono ?_
  rintro e w7 ⟨rfl, hb7⟩
  have s7 : w3.heap.size < w7.heap.size := Nat.lt_of_lt_of_le s6 hb7.size
  have C7 : Hid (Below (w1.heap.size + 1) (w1.alloc (.cells #[.slice (some ⟨gx, 0, none⟩) h.length (h.length + 3), .slice (some ⟨gx', 0, none⟩) l.length (l.length + 3)] 30)) w7) := C6.out.trans (hb7.mono (by omega))
  have D7 : Hid (Below (w2.heap.size + 1) (w2.alloc (.cells #[.slice (some ⟨gp, 0, none⟩) k k, .slice (some ⟨gp', 0, none⟩) p p] 30)) w7) := D6.out.trans (hb7.mono (by omega))
  have G7 : Hid (Below (w3.heap.size + 1) (w3.alloc (.cells #[.slice (some ⟨gq, 0, none⟩) kq kq, .slice (some ⟨gq', 0, none⟩) pq pq] 30)) w7) := G6.out.trans (hb7.mono (by omega))
  clear hb7 q06 q16 C6 D6 G6
  have a07 := (C7.out.cell (by simp; omega)).trans A0.out
  have a17 := (C7.out.cell (by simp; omega)).trans A1.out
  go_wp2_with fail
  refine (HL0.out _ (B1.out.trans (C7.out.mono (by omega)))).mono ?_
  rintro e w8 ⟨p8, k8, a0, d0, a1, d1, rfl, sh8, _, _, i8, j8, hb8⟩
  obtain ⟨ek, ep⟩ := sh8.unique IP.out.sh
  subst ek ep
  have s8 : w3.heap.size < w8.heap.size := Nat.lt_of_lt_of_le s7 hb8.size
  have C8 : Hid (Below (w1.heap.size + 1) (w1.alloc (.cells #[.slice (some ⟨gx, 0, none⟩) h.length (h.length + 3), .slice (some ⟨gx', 0, none⟩) l.length (l.length + 3)] 30)) w8) := C7.out.trans (hb8.mono (by omega))
  have D8 : Hid (Below (w2.heap.size + 1) (w2.alloc (.cells #[.slice (some ⟨gp, 0, none⟩) k8 k8, .slice (some ⟨gp', 0, none⟩) p8 p8] 30)) w8) := D7.out.trans (hb8.mono (by omega))
  have G8 : Hid (Below (w3.heap.size + 1) (w3.alloc (.cells #[.slice (some ⟨gq, 0, none⟩) kq kq, .slice (some ⟨gq', 0, none⟩) pq pq] 30)) w8) := G7.out.trans (hb8.mono (by omega))
  clear hb8 a07 a17 C7 D7 G7 sh8
  have p08 := ce_o ((D8.out.cell (by simp)).trans P0.out)
  have p18 := ce_o ((D8.out.cell (by simp)).trans P1.out)
  have I8 : Hid (∀ o, Ints (w8.alloc o) a0 (pieceOf (letF h l) 0 k8)) := fun o => i8.later (later_o o)
  have J8 : Hid (∀ o, Ints (w8.alloc o) a1 (pieceOf (letF h l) k8 p8)) := fun o => j8.later (later_o o)
  have C8o : Hid (∀ o, Below (w1.heap.size + 1) (w1.alloc (.cells #[.slice (some ⟨gx, 0, none⟩) h.length (h.length + 3), .slice (some ⟨gx', 0, none⟩) l.length (l.length + 3)] 30)) (w8.alloc o)) := bel_o C8.out (by omega)
  have D8o : Hid (∀ o, Below (w2.heap.size + 1) (w2.alloc (.cells #[.slice (some ⟨gp, 0, none⟩) k8 k8, .slice (some ⟨gp', 0, none⟩) p8 p8] 30)) (w8.alloc o)) := bel_o D8.out (by omega)
  have G8o : Hid (∀ o, Below (w3.heap.size + 1) (w3.alloc (.cells #[.slice (some ⟨gq, 0, none⟩) kq kq, .slice (some ⟨gq', 0, none⟩) pq pq] 30)) (w8.alloc o)) := bel_o G8.out (by omega)
  clear i8 j8
  go_wp2_with fail
  refine (alike_true _ _ _ _ _ _ _ _ _ _ (pieceOf (letF h l) 0 k8) (pieceOf (letF h l) k8 p8) _ (IP.out.head.ints.later ((D8o.out _).mono (by simp))) (IP.out.loop.ints.later ((D8o.out _).mono (by simp))) (I8.out _) (J8.out _) (length_pieceOf _ _ _) (length_pieceOf _ _ _) (by rw [length_pieceOf]; unfold maxLen; omega) (by rw [length_pieceOf]; unfold maxLen; omega)).mono ?_
  rintro e w9 ⟨rfl, hb9⟩
  have s9 : w8.heap.size < w9.heap.size := by have := hb9.size; simp at this; omega
  have C9 : Hid (Below (w1.heap.size + 1) (w1.alloc (.cells #[.slice (some ⟨gx, 0, none⟩) h.length (h.length + 3), .slice (some ⟨gx', 0, none⟩) l.length (l.length + 3)] 30)) w9) := (C8o.out _).trans (hb9.mono (by simp; omega))
  have D9 : Hid (Below (w2.heap.size + 1) (w2.alloc (.cells #[.slice (some ⟨gp, 0, none⟩) k8 k8, .slice (some ⟨gp', 0, none⟩) p8 p8] 30)) w9) := (D8o.out _).trans (hb9.mono (by simp; omega))
  have G9 : Hid (Below (w3.heap.size + 1) (w3.alloc (.cells #[.slice (some ⟨gq, 0, none⟩) kq kq, .slice (some ⟨gq', 0, none⟩) pq pq] 30)) w9) := (G8o.out _).trans (hb9.mono (by simp; omega))
  have t09 : w9.cell? ⟨w8.heap.size, 0, none⟩ = some (.slice a0 k8 d0) := (hb9.cell (by simp)).trans (by go_simp)
  have t19 : w9.cell? ⟨w8.heap.size, 1, none⟩ = some (.slice a1 p8 d1) := (hb9.cell (by simp)).trans (by go_simp)
  have u09 : w9.frozen? ⟨w8.heap.size, 0, none⟩ = false := (hb9.frozen (by simp)).trans (by go_simp)
  have u19 : w9.frozen? ⟨w8.heap.size, 1, none⟩ = false := (hb9.frozen (by simp)).trans (by go_simp)
  have a09 := (C9.out.cell (by simp; omega)).trans A0.out
  have a19 := (C9.out.cell (by simp; omega)).trans A1.out
  clear hb9 p08 p18 I8 J8 C8 D8 G8 C8o D8o G8o
  go_wp2_with fail
  refine (HLn.out _ (B1.out.trans (C9.out.mono (by omega)))).mono ?_
  rintro e w10 ⟨p10, k10, a0', d0', a1', d1', rfl, sh10, _, _, i10, j10, hb10⟩
  obtain ⟨ek, ep⟩ := sh10.unique IQ.out.sh
  subst ek ep
  have s10 : w8.heap.size < w10.heap.size := Nat.lt_of_lt_of_le s9 hb10.size
  have C10 : Hid (Below (w1.heap.size + 1) (w1.alloc (.cells #[.slice (some ⟨gx, 0, none⟩) h.length (h.length + 3), .slice (some ⟨gx', 0, none⟩) l.length (l.length + 3)] 30)) w10) := C9.out.trans (hb10.mono (by omega))
  have D10 : Hid (Below (w2.heap.size + 1) (w2.alloc (.cells #[.slice (some ⟨gp, 0, none⟩) k8 k8, .slice (some ⟨gp', 0, none⟩) p8 p8] 30)) w10) := D9.out.trans (hb10.mono (by omega))
  have G10 : Hid (Below (w3.heap.size + 1) (w3.alloc (.cells #[.slice (some ⟨gq, 0, none⟩) k10 k10, .slice (some ⟨gq', 0, none⟩) p10 p10] 30)) w10) := G9.out.trans (hb10.mono (by omega))
  have t010 := cell_later hb10 t09
  have t110 := cell_later hb10 t19
  have u010 : w10.frozen? ⟨w8.heap.size, 0, none⟩ = false := (hb10.frozen (by simpa using s9)).trans u09
  have u110 : w10.frozen? ⟨w8.heap.size, 1, none⟩ = false := (hb10.frozen (by simpa using s9)).trans u19
  have I10 : Hid (Ints ((w10.setCell ⟨w8.heap.size, 0, none⟩ (.slice a0' k10 d0')).setCell ⟨w8.heap.size, 1, none⟩ (.slice a1' p10 d1')) a0' (pieceOf (fun j => letF h l (n + j)) 0 k10)) := ints_far (ints_far i10 t010) (by rw [World.cell?_setCell_other _ _ _ _ (by simp)]; exact t110)
  have J10 : Hid (Ints ((w10.setCell ⟨w8.heap.size, 0, none⟩ (.slice a0' k10 d0')).setCell ⟨w8.heap.size, 1, none⟩ (.slice a1' p10 d1')) a1' (pieceOf (fun j => letF h l (n + j)) k10 p10)) := ints_far (ints_far j10 t010) (by rw [World.cell?_setCell_other _ _ _ _ (by simp)]; exact t110)
  have C11 : Hid (Below (w1.heap.size + 1) (w1.alloc (.cells #[.slice (some ⟨gx, 0, none⟩) h.length (h.length + 3), .slice (some ⟨gx', 0, none⟩) l.length (l.length + 3)] 30)) ((w10.setCell ⟨w8.heap.size, 0, none⟩ (.slice a0' k10 d0')).setCell ⟨w8.heap.size, 1, none⟩ (.slice a1' p10 d1'))) := (C10.out.setCell (by simp; omega) _).setCell (by simp; omega) _
  have D11 : Hid (Below (w2.heap.size + 1) (w2.alloc (.cells #[.slice (some ⟨gp, 0, none⟩) k8 k8, .slice (some ⟨gp', 0, none⟩) p8 p8] 30)) ((w10.setCell ⟨w8.heap.size, 0, none⟩ (.slice a0' k10 d0')).setCell ⟨w8.heap.size, 1, none⟩ (.slice a1' p10 d1'))) := (D10.out.setCell (by simp; omega) _).setCell (by simp; omega) _
  have G11 : Hid (Below (w3.heap.size + 1) (w3.alloc (.cells #[.slice (some ⟨gq, 0, none⟩) k10 k10, .slice (some ⟨gq', 0, none⟩) p10 p10] 30)) ((w10.setCell ⟨w8.heap.size, 0, none⟩ (.slice a0' k10 d0')).setCell ⟨w8.heap.size, 1, none⟩ (.slice a1' p10 d1'))) := (G10.out.setCell (by simp; omega) _).setCell (by simp; omega) _
  have z0 : ((w10.setCell ⟨w8.heap.size, 0, none⟩ (.slice a0' k10 d0')).setCell ⟨w8.heap.size, 1, none⟩ (.slice a1' p10 d1')).cell? ⟨w8.heap.size, 0, none⟩ = some (.slice a0' k10 d0') := by rw [World.cell?_setCell_other _ _ _ _ (by simp)]; exact cell_set_same t010
  have z1 : ((w10.setCell ⟨w8.heap.size, 0, none⟩ (.slice a0' k10 d0')).setCell ⟨w8.heap.size, 1, none⟩ (.slice a1' p10 d1')).cell? ⟨w8.heap.size, 1, none⟩ = some (.slice a1' p10 d1') := cell_set_two t110
  have y0 : ((w10.setCell ⟨w8.heap.size, 0, none⟩ (.slice a0' k10 d0')).setCell ⟨w8.heap.size, 1, none⟩ (.slice a1' p10 d1')).cell? ⟨w3.heap.size, 0, none⟩ = some (.slice (some ⟨gq, 0, none⟩) k10 k10) := (G11.out.cell (by simp)).trans Q0.out
  have y1 : ((w10.setCell ⟨w8.heap.size, 0, none⟩ (.slice a0' k10 d0')).setCell ⟨w8.heap.size, 1, none⟩ (.slice a1' p10 d1')).cell? ⟨w3.heap.size, 1, none⟩ = some (.slice (some ⟨gq', 0, none⟩) p10 p10) := (G11.out.cell (by simp)).trans Q1.out
  have v0 : w10.cell? ⟨w3.heap.size, 0, none⟩ = some (.slice (some ⟨gq, 0, none⟩) k10 k10) := (G10.out.cell (by simp)).trans Q0.out
  have v1 : w10.cell? ⟨w3.heap.size, 1, none⟩ = some (.slice (some ⟨gq', 0, none⟩) p10 p10) := (G10.out.cell (by simp)).trans Q1.out
  clear hb10 i10 j10 sh10 t09 t19 u09 u19 a09 a19 C9 D9 G9
  go_wp2_with fail
  refine (alike_true _ _ _ _ _ _ _ _ _ _ (pieceOf (fun j => letF h l (n + j)) 0 k10) (pieceOf (fun j => letF h l (n + j)) k10 p10) _ (IQ.out.head.ints.later (G11.out.mono (by simp))) (IQ.out.loop.ints.later (G11.out.mono (by simp))) I10.out J10.out (length_pieceOf _ _ _) (length_pieceOf _ _ _) (by rw [length_pieceOf]; unfold maxLen; omega) (by rw [length_pieceOf]; unfold maxLen; omega)).mono ?_
  rintro e w11 ⟨rfl, hb11⟩
  have hz : ((w10.setCell ⟨w8.heap.size, 0, none⟩ (.slice a0' k10 d0')).setCell ⟨w8.heap.size, 1, none⟩ (.slice a1' p10 d1')).heap.size = w10.heap.size := by simp
  have C12 : Hid (Below (w1.heap.size + 1) (w1.alloc (.cells #[.slice (some ⟨gx, 0, none⟩) h.length (h.length + 3), .slice (some ⟨gx', 0, none⟩) l.length (l.length + 3)] 30)) w11) := C11.out.trans (hb11.mono (by rw [hz]; omega))
  have D12 : Hid (Below (w2.heap.size + 1) (w2.alloc (.cells #[.slice (some ⟨gp, 0, none⟩) k8 k8, .slice (some ⟨gp', 0, none⟩) p8 p8] 30)) w11) := D11.out.trans (hb11.mono (by rw [hz]; omega))
  have G12 : Hid (Below (w3.heap.size + 1) (w3.alloc (.cells #[.slice (some ⟨gq, 0, none⟩) k10 k10, .slice (some ⟨gq', 0, none⟩) p10 p10] 30)) w11) := G11.out.trans (hb11.mono (by rw [hz]; omega))
  have RQ : Hid (Row gq k10 w11) := IQ.out.head.row.later (G12.out.mono (by simp))
  have RQ' : Hid (Row gq' p10 w11) := IQ.out.loop.row.later (G12.out.mono (by simp))
  have RP : Hid (Row gp k8 w11) := IP.out.head.row.later (D12.out.mono (by simp))
  have RP' : Hid (Row gp' p8 w11) := IP.out.loop.row.later (D12.out.mono (by simp))
  have y011 := (G12.out.cell (by simp)).trans Q0.out
  have y111 := (G12.out.cell (by simp)).trans Q1.out
  have x011 := (D12.out.cell (by simp)).trans P0.out
  have x111 := (D12.out.cell (by simp)).trans P1.out
  clear hb11 hz I10 J10 z0 z1 y0 y1 v0 v1 t010 t110 u010 u110 C10 D10 G10 C11 D11 G11
  go_wp2_with fail
  refine (spoil_any gq k10 _ RQ.out (by omega)).mono ?_
  rintro e w12 ⟨rfl, sp1⟩
  have C13 : Hid (Below (w1.heap.size + 1) (w1.alloc (.cells #[.slice (some ⟨gx, 0, none⟩) h.length (h.length + 3), .slice (some ⟨gx', 0, none⟩) l.length (l.length + 3)] 30)) w12) := sp1.below C12.out (by omega)
  have y112 := (sp1.cell (a := ⟨w3.heap.size, 1, none⟩) (by simp; omega)).trans y111
  have x012 := (sp1.cell (a := ⟨w2.heap.size, 0, none⟩) (by simp; omega)).trans x011
  have x112 := (sp1.cell (a := ⟨w2.heap.size, 1, none⟩) (by simp; omega)).trans x111
  have RQ2 : Hid (Row gq' p10 w12) := sp1.rows _ _ RQ'.out
  have RP2 : Hid (Row gp k8 w12) := sp1.rows _ _ RP.out
  have RP2' : Hid (Row gp' p8 w12) := sp1.rows _ _ RP'.out
  clear sp1 y011 y111 x011 x111 RQ RQ' RP RP' C12 D12 G12
  go_wp2_with fail
  refine (spoil_any gq' p10 _ RQ2.out (by omega)).mono ?_
  rintro e w13 ⟨rfl, sp2⟩
  have C14 : Hid (Below (w1.heap.size + 1) (w1.alloc (.cells #[.slice (some ⟨gx, 0, none⟩) h.length (h.length + 3), .slice (some ⟨gx', 0, none⟩) l.length (l.length + 3)] 30)) w13) := sp2.below C13.out (by omega)
  have x013 := (sp2.cell (a := ⟨w2.heap.size, 0, none⟩) (by simp; omega)).trans x012
  have x113 := (sp2.cell (a := ⟨w2.heap.size, 1, none⟩) (by simp; omega)).trans x112
  have RP3 : Hid (Row gp k8 w13) := sp2.rows _ _ RP2.out
  have RP3' : Hid (Row gp' p8 w13) := sp2.rows _ _ RP2'.out
  clear sp2 y112 x012 x112 RQ2 RP2 RP2' C13
  go_wp2_with fail
  refine (spoil_any gp k8 _ RP3.out (by omega)).mono ?_
  rintro e w14 ⟨rfl, sp3⟩
  have C15 : Hid (Below (w1.heap.size + 1) (w1.alloc (.cells #[.slice (some ⟨gx, 0, none⟩) h.length (h.length + 3), .slice (some ⟨gx', 0, none⟩) l.length (l.length + 3)] 30)) w14) := sp3.below C14.out (by omega)
  have x114 := (sp3.cell (a := ⟨w2.heap.size, 1, none⟩) (by simp; omega)).trans x113
  have RP4' : Hid (Row gp' p8 w14) := sp3.rows _ _ RP3'.out
  clear sp3 x013 x113 RP3 RP3' C14
  go_wp2_with fail
  refine (spoil_any gp' p8 _ RP4'.out (by omega)).mono ?_
  rintro e w15 ⟨rfl, sp4⟩
  have C16 : Hid (Below (w1.heap.size + 1) (w1.alloc (.cells #[.slice (some ⟨gx, 0, none⟩) h.length (h.length + 3), .slice (some ⟨gx', 0, none⟩) l.length (l.length + 3)] 30)) w15) := sp4.below C15.out (by omega)
  have e015 := (C16.out.cell (by simp)).trans E0.out
  have e115 := (C16.out.cell (by simp)).trans E1.out
  have a015 := (C16.out.cell (by simp; omega)).trans A0.out
  have a115 := (C16.out.cell (by simp; omega)).trans A1.out
  clear sp4 x114 RP4' C15
  go_wp2_with fail
  refine (HX.out _ _ _ (X0.out.later (C16.out.mono (by simp))) (X1.out.later (C16.out.mono (by simp))) (B1.out.trans (C16.out.mono (by omega)))).mono ?_
  rintro e w16 ⟨rfl, hb16⟩
  have HBF : Hid (Below w.heap.size w w16) := (B1.out.trans (C16.out.mono (by omega))).trans (hb16.mono (by have := C16.out.size; simp at this; omega))
  clear hb16
  go_wp2
  go_ret
  exact ⟨by simp, HBF.out⟩

end Go.Proofs.Ythccdfjmkdcehaa
