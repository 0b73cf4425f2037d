/- Four numbers in an array: heaped, turned, lacks. -/
import Derived.Test.YtbkfcfhkjnfbmaaHpBase
import Derived.Test.YtbkfcfhkjnfbmaaSkRow
namespace Go.Proofs.Ytbkfcfhkjnfbmaa
open Go.RowKit
set_option linter.unusedVariables false
set_option linter.unusedSimpArgs false

abbrev pilV (f : Nat → Int) : Value := .agg #[.int .i64 (f 0), .int .i64 (f 1), .int .i64 (f 2), .int .i64 (f 3)]
/-- Four numbers lie in a block. -/
def Arr4 (b : Nat) (f : Nat → Int) (W : World) : Prop := W.heap[b]? = some (.cells #[.int .i64 (f 0), .int .i64 (f 1), .int .i64 (f 2), .int .i64 (f 3)] 48 (0, 0))
theorem Arr4.cells {b : Nat} {f : Nat → Int} {W : World} (h : Arr4 b f W) : W.cell? ⟨b, 0, none⟩ = some (.int .i64 (f 0)) ∧ W.cell? ⟨b, 1, none⟩ = some (.int .i64 (f 1)) ∧ W.cell? ⟨b, 2, none⟩ = some (.int .i64 (f 2)) ∧ W.cell? ⟨b, 3, none⟩ = some (.int .i64 (f 3)) ∧ ∀ k, W.frozen? ⟨b, k, none⟩ = false :=
  ⟨by rw [cell_of_row _ _ 0 _ _ (0, 0) h]; rfl, by rw [cell_of_row _ _ 1 _ _ (0, 0) h]; rfl, by rw [cell_of_row _ _ 2 _ _ (0, 0) h]; rfl, by rw [cell_of_row _ _ 3 _ _ (0, 0) h]; rfl, fun k => frozen_of_row _ _ k _ _ h⟩
theorem Arr4.lt {b : Nat} {f : Nat → Int} {W : World} (h : Arr4 b f W) : b < W.heap.size := (Array.getElem?_eq_some_iff.1 h).1
theorem Arr4.kept {b : Nat} {f : Nat → Int} {W W' : World} (h : Arr4 b f W) (hg : W.grownBy W' none) : Arr4 b f W' := (hg.block _ h.lt (by simp)).trans h
theorem Arr4.far {b g : Nat} {f : Nat → Int} {W W' : World} (h : Arr4 b f W) (hg : W.grownBy W' (some g)) (hne : b ≠ g) : Arr4 b f W' := (hg.block _ h.lt (by simpa using hne)).trans h
theorem grown_setH {a b : World} {g : Nat} (h : a.grownBy b (some g)) (o : Nat) (v : Value) : a.grownBy (b.setCell ⟨g, o, none⟩ v) (some g) := grown_trans h (grown_set b ⟨g, o, none⟩ v)
/-- All four are written. -/
theorem Arr4.store {b : Nat} {f : Nat → Int} {W : World} (h : Arr4 b f W) (g : Nat → Int) : ∃ W', W' = ((((W.setCell ⟨b, 0, none⟩ (.int .i64 (g 0))).setCell ⟨b, 1, none⟩ (.int .i64 (g 1))).setCell ⟨b, 2, none⟩ (.int .i64 (g 2))).setCell ⟨b, 3, none⟩ (.int .i64 (g 3))) ∧ W.grownBy W' (some b) ∧ Arr4 b g W' := by
  unfold Arr4 at h
  have h0 := heap_setCell_same W b 0 _ _ (.int .i64 (g 0)) h
  have h1 := heap_setCell_same _ b 1 _ _ (.int .i64 (g 1)) h0
  have h2 := heap_setCell_same _ b 2 _ _ (.int .i64 (g 2)) h1
  have h3 := heap_setCell_same _ b 3 _ _ (.int .i64 (g 3)) h2
  exact ⟨_, rfl, grown_setH (grown_setH (grown_setH (grown_set W ⟨b, 0, none⟩ _) 1 _) 2 _) 3 _, h3⟩
theorem arr4_new (w : World) (f : Nat → Int) : Arr4 w.heap.size f (w.alloc (.cells #[.int .i64 (f 0), .int .i64 (f 1), .int .i64 (f 2), .int .i64 (f 3)] 48)) := heap_alloc_new w _

/-- A copy, under a name that the walk does not open. -/
def CopH (ts : Array TypeId) (ty : TypeId) (args : Array Value) : Sem Value := Builtin.copy_ ts ty args
theorem copH_fold (ts : Array TypeId) (ty : TypeId) (args : Array Value) : Builtin.copy_ ts ty args = CopH ts ty args := rfl
attribute [local go_sem ↓] copH_fold
theorem setRow_heapH (w : World) (g : Nat) (cs : Array Value) (cur : Array Value) (t : TypeId) (h : w.heap[g]? = some (.cells cur t (0, 0))) : (w.setRow g cs).heap[g]? = some (.cells cs t (0, 0)) := by
  simp [World.setRow, Array.getElem?_modify, h]
theorem copy4 {w : World} {g : Nat} {a : Option Addr} {c : Nat} {s : List Int} (h : Arr4 g (fun _ => 0) w) (hs : Ints w a s) (hl : s.length ≤ 4) :
    ∃ W' v, (CopH #[25, 25] 3 #[.slice (some ⟨g, 0, none⟩) 4 4, .slice a s.length c]).run Try.prog w = .ok v W' ∧ Arr4 g (fun i => s.getD i 0) W' ∧ w.grownBy W' (some g) := by
  obtain ⟨i0, hi, hz0, hz1, hz2⟩ := info_partsY Try.infoI64Y
  have hsz : (Try.prog.info? 3).map (·.size) = some 1 := by rw [hi]; simp [hz1]
  rcases hs with rfl | ⟨b, off, rfl, hc⟩
  · exact ⟨w, _, run_copy_none w 25 25 3 3 _ _ _ _ _ _ Try.underlying25 hsz (by simp), h, grown_refl _ _⟩
  · have hrun := run_copy_row (P := Try.prog) w 25 25 3 3 g 0 4 4 ⟨b, off, none⟩ s.length c _ 48 (numsI s) Try.underlying25 hsz h (by simp only [numsI, List.length_map]; exact (Nat.min_eq_left hl).symm) (fun j v hv => by
      have hj : j < s.length := by have := (List.getElem?_eq_some_iff.1 hv).1; simpa [numsI] using this
      rw [add_off, hc j hj, ← hv]
      simp [numsI, hj, List.getD]) (by simp [numsI]; omega) (by intro v hv; simp [numsI] at hv; obtain ⟨x, _, rfl⟩ := hv; rfl)
    refine ⟨_, _, hrun, ?_, ⟨rfl, rfl, rfl, by simp [World.setRow], fun k hk hr => by simp [World.setRow, Array.getElem?_modify]; intro e; simp at hr; omega⟩⟩
    have e := setRow_heapH w g ((#[Value.int .i64 0, Value.int .i64 0, Value.int .i64 0, Value.int .i64 0] : Array Value).toList.take 0 ++ numsI s ++ (#[Value.int .i64 0, Value.int .i64 0, Value.int .i64 0, Value.int .i64 0] : Array Value).toList.drop (0 + (numsI s).length)).toArray _ _ h
    unfold Arr4
    rw [e]
    congr 1
    have : s.length = 0 ∨ s.length = 1 ∨ s.length = 2 ∨ s.length = 3 ∨ s.length = 4 := by omega
    match s, hl with
    | [], _ => rfl
    | [_], _ => rfl
    | [_, _], _ => rfl
    | [_, _, _], _ => rfl
    | [_, _, _, _], _ => rfl
    | _ :: _ :: _ :: _ :: _ :: _, h => simp at h

set_option maxHeartbeats 1600000 in
set_option maxRecDepth 100000 in
theorem heaped_any (s : List Int) (a : Option Addr) (c : Nat) (w : World) (hs : Ints w a s) (hl : s.length ≤ 4) :
    Calls Try.prog 20 #[.slice a s.length c] w (Says (pilV fun i => s.getD i 0) w) := by
  obtain ⟨W1, hW1⟩ : ∃ W1, W1 = w.alloc (.cells #[.int .i64 0, .int .i64 0, .int .i64 0, .int .i64 0] 48) := ⟨_, rfl⟩
  obtain ⟨W2, hW2⟩ : ∃ W2, W2 = W1.alloc (.cells #[.int .i64 0, .int .i64 0, .int .i64 0, .int .i64 0] 48) := ⟨_, rfl⟩
  have s1 : W1.heap.size = w.heap.size + 1 := by rw [hW1]; simp
  have g1 : w.grownBy W1 none := by rw [hW1]; exact grown_alloc _ _
  have g2 : W1.grownBy W2 none := by rw [hW2]; exact grown_alloc _ _
  have A1 : Arr4 w.heap.size (fun _ => 0) W1 := by rw [hW1]; exact arr4_new w fun _ => 0
  have A2 : Arr4 (w.heap.size + 1) (fun _ => 0) W2 := by rw [hW2, ← s1]; exact arr4_new W1 fun _ => 0
  obtain ⟨W3, v, hrun, A3, g3⟩ := copy4 (c := c) A2 (hs.grown (grown_trans g1 g2)) hl
  generalize (fun i : Nat => s.getD i 0) = f at A3 ⊢
  have B3 : Arr4 w.heap.size (fun _ => 0) W3 := (A1.kept g2).far g3 (by omega)
  obtain ⟨W4, hW4, g4, A4⟩ := B3.store f
  have GF : Hid (w.grownBy W4 none) := grown_new (grown_new (grown_trans g1 g2) g3 (by omega)) g4 (Nat.le_refl _)
  have HW4 : Hid (W4 = _) := hW4
  have AF : Hid (Arr4 w.heap.size f W4) := A4
  rw [hW2, hW1] at hrun
  obtain ⟨x0, x1, x2, x3, _⟩ := A3.cells
  obtain ⟨y0, y1, y2, y3, fz⟩ := B3.cells
  have fz0 := fz 0
  have fz1 := fz 1
  have fz2 := fz 2
  have fz3 := fz 3
  clear A1 A2 A3 B3 A4 g1 g2 g3 g4 s1 hW1 hW2 hW4 fz
  go_enter Try.func20, Try.ntmps20
  go_wp2_with fail
  rw [← HW4.out]
  obtain ⟨z0, z1, z2, z3, _⟩ := AF.out.cells
  exact bodyPost_ret (v := pilV f) (by simp [results, Try.results20, go_sem, z0, z1, z2, z3]) rfl ⟨rfl, GF.out⟩

/-- All four the other way. -/
def negF (f : Nat → Int) : Nat → Int := fun i => -f i
set_option maxHeartbeats 3200000 in
set_option maxRecDepth 100000 in
theorem turned_any (f : Nat → Int) (hf : ∀ i, -1000 ≤ f i ∧ f i ≤ 1000) (w : World) :
    Calls Try.prog 18 #[pilV f] w (Says (pilV (negF f)) w) := by
  obtain ⟨W1, hW1⟩ : ∃ W1, W1 = w.alloc (.cells #[.int .i64 (f 0), .int .i64 (f 1), .int .i64 (f 2), .int .i64 (f 3)] 48) := ⟨_, rfl⟩
  obtain ⟨W2, hW2⟩ : ∃ W2, W2 = W1.alloc (.cells #[.int .i64 0, .int .i64 0, .int .i64 0, .int .i64 0] 48) := ⟨_, rfl⟩
  have s1 : W1.heap.size = w.heap.size + 1 := by rw [hW1]; simp
  have g1 : w.grownBy W1 none := by rw [hW1]; exact grown_alloc _ _
  have g2 : W1.grownBy W2 none := by rw [hW2]; exact grown_alloc _ _
  have A1 : Arr4 w.heap.size f W1 := by rw [hW1]; exact arr4_new w f
  have A2 : Arr4 (w.heap.size + 1) (fun _ => 0) W2 := by rw [hW2, ← s1]; exact arr4_new W1 fun _ => 0
  have B2 := A1.kept g2
  obtain ⟨W3, hW3, g3, B3⟩ := B2.store (negF f)
  obtain ⟨W4, hW4, g4, A4⟩ := (A2.far g3 (by omega)).store (negF f)
  have GF : Hid (w.grownBy W4 none) := grown_new (grown_new (grown_trans g1 g2) g3 (Nat.le_refl _)) g4 (by omega)
  have HW2 : Hid (W2 = _) := hW2
  have HW3 : Hid (W3 = _) := hW3
  have HW4 : Hid (W4 = _) := hW4
  have AF : Hid (Arr4 (w.heap.size + 1) (negF f) W4) := A4
  obtain ⟨x0, x1, x2, x3, fx⟩ := B2.cells
  have fx0 := fx 0
  have fx1 := fx 1
  have fx2 := fx 2
  have fx3 := fx 3
  have k0 : IntKind.i64.wrap (-f 0) = negF f 0 := by rw [IntKind.wrap_i64]; unfold negF; have := hf 0; omega
  have k1 : IntKind.i64.wrap (-f 1) = negF f 1 := by rw [IntKind.wrap_i64]; unfold negF; have := hf 1; omega
  have k2 : IntKind.i64.wrap (-f 2) = negF f 2 := by rw [IntKind.wrap_i64]; unfold negF; have := hf 2; omega
  have k3 : IntKind.i64.wrap (-f 3) = negF f 3 := by rw [IntKind.wrap_i64]; unfold negF; have := hf 3; omega
  obtain ⟨y0, y1, y2, y3, _⟩ := B3.cells
  have A3 := A2.far g3 (by omega)
  obtain ⟨z0, z1, z2, z3, fz⟩ := A3.cells
  have fz0 := fz 0
  have fz1 := fz 1
  have fz2 := fz 2
  have fz3 := fz 3
  clear A1 A2 A3 B2 B3 A4 g1 g2 g3 g4 s1 fx fz hf hW3 hW4
  rw [hW1] at hW2
  clear hW1
  go_enter Try.func18, Try.ntmps18
  go_wp2_with fail
  rw [← hW2]
  clear HW2 hW2
  refine wp_loop_rounds 5 ?_
  rw [rounds_succ]
  go_wp2_with fail
  rw [rounds_succ]
  go_wp2_with fail
  rw [rounds_succ]
  go_wp2_with fail
  rw [rounds_succ]
  go_wp2_with fail
  rw [← HW3.out, rounds_succ]
  go_wp2_with fail
  rw [← HW4.out]
  obtain ⟨v0, v1, v2, v3, _⟩ := AF.out.cells
  exact bodyPost_ret (v := pilV (negF f)) (by simp [results, Try.results18, go_sem, v0, v1, v2, v3]) rfl ⟨rfl, GF.out⟩

/-- What the heaps lack. -/
theorem lacks_any (s : List Int) (a : Option Addr) (c : Nat) (w : World) (hs : Ints w a s) (hl : s.length ≤ 4) (hb : OneW s 10) :
    Calls Try.prog 16 #[.slice a s.length c] w (Says (pilV (negF fun i => s.getD i 0)) w) := by
  have hf : ∀ i, -1000 ≤ s.getD i 0 ∧ s.getD i 0 ≤ 1000 := fun i => by
    by_cases e : i < s.length
    · have := hb i e; omega
    · have : s.getD i 0 = 0 := by simp [List.getD, Nat.not_lt.1 e]
      omega
  have HH : Hid (∀ W, w.grownBy W none → Calls Try.prog 20 #[.slice a s.length c] W (Says (pilV fun i => s.getD i 0) W)) := fun W hW => heaped_any s a c W (hs.grown hW) hl
  have HT0 : ∀ W, Calls Try.prog 18 #[pilV fun i => s.getD i 0] W (Says (pilV (negF fun i => s.getD i 0)) W) := fun W => turned_any (fun i => s.getD i 0) hf W
  generalize (fun i : Nat => s.getD i 0) = f at HH HT0 ⊢
  have HT : Hid (∀ W, Calls Try.prog 18 #[pilV f] W (Says (pilV (negF f)) W)) := HT0
  clear HT0 hf hs
  generalize negF f = g at HT ⊢
  obtain ⟨W1, hW1⟩ : ∃ W1, W1 = w.alloc (.cells #[.int .i64 0, .int .i64 0, .int .i64 0, .int .i64 0] 48) := ⟨_, rfl⟩
  have A1 : Hid (Arr4 w.heap.size (fun _ => 0) W1) := by rw [hW1]; exact arr4_new w fun _ => 0
  have G1 : Hid (w.grownBy W1 none) := by rw [hW1]; exact grown_alloc _ _
  go_enter Try.func16, Try.ntmps16
  go_wp2_with fail
  rw [← hW1]
  clear hW1
  refine (HH.out _ G1.out).mono ?_
  rintro E w2 ⟨rfl, hg2⟩
  have G2 : Hid (W1.grownBy w2 none) := hg2
  clear hg2
  go_wp2_with fail
  refine (HT.out _).mono ?_
  rintro E w3 ⟨rfl, hg3⟩
  have A3 := A1.out.kept (grown_trans G2.out hg3)
  obtain ⟨W4, hW4, g4, A4⟩ := A3.store g
  have GF : Hid (w.grownBy W4 none) := grown_new (grown_trans G1.out (grown_trans G2.out hg3)) g4 (Nat.le_refl _)
  have HW4 : Hid (W4 = _) := hW4
  have AF : Hid (Arr4 w.heap.size g W4) := A4
  obtain ⟨z0, z1, z2, z3, fz⟩ := A3.cells
  have fz0 := fz 0
  have fz1 := fz 1
  have fz2 := fz 2
  have fz3 := fz 3
  clear hW4 g4 A4 A3 fz hg3
  go_wp2_with fail
  rw [← HW4.out]
  obtain ⟨v0, v1, v2, v3, _⟩ := AF.out.cells
  exact bodyPost_ret (v := pilV g) (by simp [results, Try.results16, go_sem, v0, v1, v2, v3]) rfl ⟨rfl, GF.out⟩

end Go.Proofs.Ytbkfcfhkjnfbmaa
