/- buchi.Some. -/
import Derived.Test.YteodlmgaemfiiaaUShort
import Derived.Test.YteodlmgaemfiiaaUCheck2
namespace Go.Proofs.Yteodlmgaemfiiaa
open Go.RowKit
set_option linter.unusedVariables false

theorem two_boxesU (w : World) (o : Obj) (o' : Array Value) (t : TypeId) : ∃ W1, W1 = (w.alloc o).alloc (.cells o' t) ∧ W1.heap.size = w.heap.size + 2 ∧ w.grownBy W1 none ∧ W1.heap[w.heap.size + 1]? = some (.cells o' t (0, 0)) :=
  ⟨_, rfl, by simp, grown_trans (grown_alloc _ _) (grown_alloc _ _), by have := heap_alloc_new (w.alloc o) (.cells o' t); simpa using this⟩
/-- What Some answers. -/
def SomePost (T : List StepI) (ss fs l : Nat) (w : World) (E : Ending) (w' : World) : Prop :=
  ∃ (fo : Bool) (hd lp : List Nat) (a : Option Addr) (c : Nat) (a' : Option Addr) (c' : Nat), E = .returned (.tuple #[lasV a hd.length c a' lp.length c', .bool fo, .int .i64 0]) ∧ Ints w' a (natInts hd) ∧ Ints w' a' (natInts lp) ∧ w.grownBy w' none ∧ ((fo = true ∧ Best T ss fs l hd lp) ∨ (fo = false ∧ hd = [] ∧ lp = [] ∧ ∀ h' l', ¬ AccL T ss fs h' l'))

set_option maxHeartbeats 3200000 in
set_option maxRecDepth 100000 in
theorem some_bad (x : Aut) (a b e : Option Addr) (c d f : Nat) (w : World) (h : AutAt w x a b e) (hb : checkA x ≠ 0) :
    Calls Try.prog 21 #[autV x.L x.N a x.S.length c b x.T.length d e x.F.length f] w (Says (.tuple #[lasV none 0 0 none 0 0, .bool false, .int .i64 (checkA x)]) w) := by
  have HC : Hid (∀ W, w.grownBy W none → Calls Try.prog 17 #[autV x.L x.N a x.S.length c b x.T.length d e x.F.length f] W (Says (.int .i64 (checkA x)) W)) := fun W hW => checkB_any x a b e c d f W (h.grown hW)
  obtain ⟨y, hy⟩ : ∃ y, checkA x = y := ⟨_, rfl⟩
  rw [hy] at HC hb
  rw [hy]
  have f1 : (y != 0) = true := by simpa using hb
  have f2 : (y == 0) = false := by simpa using hb
  obtain ⟨W1, hW1, hs1, g1, k1⟩ := two_boxesU w (.cells #[.int .i64 x.L, .int .i64 x.N, .slice a x.S.length c, .slice b x.T.length d, .slice e x.F.length f] 25) #[.slice none 0 0, .slice none 0 0] 42
  have HW1 : Hid (W1 = _) := hW1
  have HS1 : Hid (W1.heap.size = w.heap.size + 2) := hs1
  have G1 : Hid (w.grownBy W1 none) := g1
  have K1 : Hid (W1.heap[w.heap.size + 1]? = some (.cells #[.slice none 0 0, .slice none 0 0] 42 (0, 0))) := k1
  have xx : ∀ o', (((w.alloc (.cells #[.int .i64 x.L, .int .i64 x.N, .slice a x.S.length c, .slice b x.T.length d, .slice e x.F.length f] 25)).alloc o')).cell? ⟨w.heap.size, 0, none⟩ = some (.int .i64 x.L) ∧ (((w.alloc (.cells #[.int .i64 x.L, .int .i64 x.N, .slice a x.S.length c, .slice b x.T.length d, .slice e x.F.length f] 25)).alloc o')).cell? ⟨w.heap.size, 1, none⟩ = some (.int .i64 x.N) ∧ (((w.alloc (.cells #[.int .i64 x.L, .int .i64 x.N, .slice a x.S.length c, .slice b x.T.length d, .slice e x.F.length f] 25)).alloc o')).cell? ⟨w.heap.size, 2, none⟩ = some (.slice a x.S.length c) ∧ (((w.alloc (.cells #[.int .i64 x.L, .int .i64 x.N, .slice a x.S.length c, .slice b x.T.length d, .slice e x.F.length f] 25)).alloc o')).cell? ⟨w.heap.size, 3, none⟩ = some (.slice b x.T.length d) ∧ (((w.alloc (.cells #[.int .i64 x.L, .int .i64 x.N, .slice a x.S.length c, .slice b x.T.length d, .slice e x.F.length f] 25)).alloc o')).cell? ⟨w.heap.size, 4, none⟩ = some (.slice e x.F.length f) := fun o' => box5 (t := 25) (grown_alloc _ _)
  have x0 := fun o => (xx o).1
  have x1 := fun o => (xx o).2.1
  have x2 := fun o => (xx o).2.2.1
  have x3 := fun o => (xx o).2.2.2.1
  have x4 := fun o => (xx o).2.2.2.2
  clear xx h hW1 hs1 g1 k1 hy hb
  obtain ⟨L, N, S, T, F⟩ := x
  simp only at *
  generalize S.length = nS at *
  generalize T.length = nT at *
  generalize F.length = nF at *
  go_enter Try.func21, Try.ntmps21
  go_wp2_with fail
  rw [← HW1.out]
  clear x0 x1 x2 x3 x4
  refine (HC.out _ G1.out).mono ?_
  rintro E w2 ⟨rfl, hg2⟩
  have RB : BestAt w2 (w.heap.size + 1) [] [] none 0 none 0 := ⟨(hg2.block _ (by rw [HS1.out]; omega) (by simp)).trans K1.out, .inl rfl, .inl rfl⟩
  obtain ⟨r0, r1, rz⟩ := RB.cells
  have rz0 := rz 0
  have rz1 := rz 1
  obtain ⟨W9, hW9⟩ : ∃ W9, W9 = (w2.setCell ⟨w.heap.size + 1, 0, none⟩ (.slice none 0 0)).setCell ⟨w.heap.size + 1, 1, none⟩ (.slice none 0 0) := ⟨_, rfl⟩
  obtain ⟨hb9, hg9⟩ := RB.put (hd' := []) (lp' := []) (e := none) (e' := none) (d := 0) (d' := 0) (.inl rfl) (.inl rfl) rfl rfl
  have hb9' : BestAt W9 (w.heap.size + 1) [] [] none 0 none 0 := by rw [hW9]; exact hb9
  have G9 : Hid (w.grownBy W9 none) := by rw [hW9]; exact grown_new (grown_trans G1.out hg2) hg9 (by omega)
  obtain ⟨q0, q1, _⟩ := hb9'.cells
  simp only [List.length_nil] at r0 r1 q0 q1
  clear RB rz hb9 hb9' hg9 hg2
  go_wp2_with fail
  rw [← hW9]
  exact bodyPost_ret (v := .tuple #[lasV none 0 0 none 0 0, .bool false, .int .i64 y]) (by simp [results, Try.results21, go_sem, q0, q1]) rfl ⟨rfl, G9.out⟩

set_option maxHeartbeats 3200000 in
set_option maxRecDepth 100000 in
theorem some_good (x : Aut) (l nS : Nat) (hL : x.L = l) (hN : x.N = nS) (hG : GoodA x) (hck : checkA x = 0) (a b e : Option Addr) (c d f : Nat) (w : World) (h : AutAt w x a b e) :
    Calls Try.prog 21 #[autV l nS a x.S.length c b x.T.length d e x.F.length f] w (SomePost x.T (setOf x.S) (setOf x.F) l w) := by
  have HC : Hid (∀ W, w.grownBy W none → Calls Try.prog 17 #[autV l nS a x.S.length c b x.T.length d e x.F.length f] W (Says (.int .i64 0) W)) := fun W hW => by
    have h1 := checkB_any x a b e c d f W (h.grown hW)
    rw [hck, hL, hN] at h1
    exact h1
  have HSh : Hid (∀ W, w.grownBy W none → Calls Try.prog 46 #[autV l nS a x.S.length c b x.T.length d e x.F.length f] W (ShortPost x.T (setOf x.S) (setOf x.F) l W)) := fun W hW => shortest_any x l nS hL hN hG a b e c d f W (h.grown hW)
  obtain ⟨W1, hW1, hs1, g1, k1⟩ := two_boxesU w (.cells #[.int .i64 l, .int .i64 nS, .slice a x.S.length c, .slice b x.T.length d, .slice e x.F.length f] 25) #[.slice none 0 0, .slice none 0 0] 42
  have HW1 : Hid (W1 = _) := hW1
  have HS1 : Hid (W1.heap.size = w.heap.size + 2) := hs1
  have G1 : Hid (w.grownBy W1 none) := g1
  have K1 : Hid (W1.heap[w.heap.size + 1]? = some (.cells #[.slice none 0 0, .slice none 0 0] 42 (0, 0))) := k1
  have BX : Hid (∀ W', W1.grownBy W' none → W'.cell? ⟨w.heap.size, 0, none⟩ = some (.int .i64 l) ∧ W'.cell? ⟨w.heap.size, 1, none⟩ = some (.int .i64 nS) ∧ W'.cell? ⟨w.heap.size, 2, none⟩ = some (.slice a x.S.length c) ∧ W'.cell? ⟨w.heap.size, 3, none⟩ = some (.slice b x.T.length d) ∧ W'.cell? ⟨w.heap.size, 4, none⟩ = some (.slice e x.F.length f)) := fun W' hW => box5 (t := 25) (grown_trans (by rw [hW1]; exact grown_alloc _ _) hW)
  obtain ⟨x0, x1, x2, x3, x4⟩ := BX.out W1 (grown_refl _ _)
  rw [hW1] at x0 x1 x2 x3 x4
  clear h hW1 hs1 g1 k1 hG hck hL hN
  obtain ⟨L, N, S, T, F⟩ := x
  simp only at *
  generalize S.length = mS at *
  generalize T.length = mT at *
  obtain ⟨fs, hfs⟩ : ∃ fs, setOf F = fs := ⟨_, rfl⟩
  obtain ⟨ss, hss⟩ : ∃ ss, setOf S = ss := ⟨_, rfl⟩
  rw [hfs, hss] at HSh
  rw [hfs, hss]
  clear hfs hss
  generalize F.length = mF at *
  go_enter Try.func21, Try.ntmps21
  go_wp2_with fail
  rw [← HW1.out]
  clear x0 x1 x2 x3 x4 HW1
  refine (HC.out _ G1.out).mono ?_
  rintro E w2 ⟨rfl, hg2⟩
  have G2 : Hid (W1.grownBy w2 none) := hg2
  obtain ⟨x0, x1, x2, x3, x4⟩ := BX.out w2 hg2
  clear hg2
  go_wp2_with fail
  clear x0 x1 x2 x3 x4
  refine (HSh.out w2 (grown_trans G1.out G2.out)).mono ?_
  rintro E w3 ⟨fo, hd, lp, aa, ca, ab, cb, rfl, hi, hl, hg3, hlog⟩
  obtain ⟨W4, hW4⟩ : ∃ W4, W4 = w3.alloc (.cells #[.slice aa hd.length ca, .slice ab lp.length cb] 42) := ⟨_, rfl⟩
  have g4 : w3.grownBy W4 none := by rw [hW4]; exact grown_alloc _ _
  have hb4 := heap_alloc_new w3 (.cells #[.slice aa hd.length ca, .slice ab lp.length cb] 42)
  rw [← hW4] at hb4
  have G4 : Hid (W1.grownBy W4 none) := grown_trans G2.out (grown_trans hg3 g4)
  have RB : BestAt W4 (w.heap.size + 1) [] [] none 0 none 0 := ⟨(G4.out.block _ (by rw [HS1.out]; omega) (by simp)).trans K1.out, .inl rfl, .inl rfl⟩
  obtain ⟨r0, r1, rz⟩ := RB.cells
  have rz0 := rz 0
  have rz1 := rz 1
  have y0 : W4.cell? ⟨w3.heap.size, 0, none⟩ = some (.slice aa hd.length ca) := by rw [cell_of_row _ _ 0 _ _ (0, 0) hb4]; rfl
  have y1 : W4.cell? ⟨w3.heap.size, 1, none⟩ = some (.slice ab lp.length cb) := by rw [cell_of_row _ _ 1 _ _ (0, 0) hb4]; rfl
  obtain ⟨W9, hW9⟩ : ∃ W9, W9 = (W4.setCell ⟨w.heap.size + 1, 0, none⟩ (.slice aa hd.length ca)).setCell ⟨w.heap.size + 1, 1, none⟩ (.slice ab lp.length cb) := ⟨_, rfl⟩
  obtain ⟨hb9, hg9⟩ := RB.put (d := ca) (d' := cb) (hi.grown g4) (hl.grown g4) rfl rfl
  rw [← hW9] at hb9 hg9
  obtain ⟨q0, q1, _⟩ := hb9.cells
  have Fin : Hid (SomePost T ss fs l w (.returned (.tuple #[lasV aa hd.length ca ab lp.length cb, .bool fo, .int .i64 0])) W9) := ⟨fo, hd, lp, aa, ca, ab, cb, rfl, hb9.ih, hb9.il, grown_new (grown_trans G1.out G4.out) hg9 (by omega), hlog⟩
  simp only [List.length_nil] at r0 r1
  rw [hW4] at r0 r1 rz0 rz1 y0 y1 hW9
  clear RB rz hb9 hg9 hlog hi hl hg3 hW4 hb4 g4 G4
  generalize hd.length = m1 at *
  generalize lp.length = m2 at *
  go_wp2_with fail
  rw [← hW9]
  exact bodyPost_ret (v := .tuple #[lasV aa m1 ca ab m2 cb, .bool fo, .int .i64 0]) (by simp [results, Try.results21, go_sem, q0, q1]) rfl Fin.out

end Go.Proofs.Yteodlmgaemfiiaa
