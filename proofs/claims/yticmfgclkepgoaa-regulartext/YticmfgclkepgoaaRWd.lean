/- Rows of sayings in memory, and rows of ways. -/
/- What is said of a state's ways: the program's waysOf. (Written by wip/tools/rways.py out of RWays.src.) -/
/- All states' ways in memory: what holds while regular.written goes. -/
import Derived.Test.YticmfgclkepgoaaRSayA
import Derived.Test.YticmfgclkepgoaaDBs
import Derived.Deep.CutRange
import Derived.Deep.DeepCutAuto
namespace Go.Proofs.Yticmfgclkepgoaa
open Go.RowKit
set_option linter.unusedVariables false
set_option linter.unusedSimpArgs false

def SRow (W : World) (g n : Nat) (f : Nat → Sy) : Prop := ∃ cur : Array Value, W.heap[g]? = some (.cells cur 57 (0, 0)) ∧ ∀ i, i < n → cur[i * 2]? = some (.string (f i).1) ∧ cur[i * 2 + 1]? = some (.int .i64 ((f i).2 : Int))
section
variable {W W' : World} {g n : Nat} {f f' : Nat → Sy}
theorem SRow.lt (h : SRow W g n f) : g < W.heap.size := by obtain ⟨cur, h1, _⟩ := h; exact (Array.getElem?_eq_some_iff.1 h1).1
theorem SRow.cell (h : SRow W g n f) {i : Nat} (hi : i < n) : W.cell? ⟨g, i * 2, none⟩ = some (.string (f i).1) ∧ W.cell? ⟨g, i * 2 + 1, none⟩ = some (.int .i64 ((f i).2 : Int)) := by
  obtain ⟨cur, h1, h2⟩ := h
  obtain ⟨h3, h4⟩ := h2 i hi
  exact ⟨by rw [cell_of_row _ _ _ _ _ (0, 0) h1]; exact h3, by rw [cell_of_row _ _ _ _ _ (0, 0) h1]; exact h4⟩
theorem SRow.fz (h : SRow W g n f) (i : Nat) : W.frozen? ⟨g, i, none⟩ = false := by obtain ⟨cur, h1, _⟩ := h; exact frozen_of_row _ _ _ _ _ h1
theorem SRow.block (h : SRow W g n f) (e : W'.heap[g]? = W.heap[g]?) : SRow W' g n f := by obtain ⟨cur, h1, h2⟩ := h; exact ⟨cur, by rw [e]; exact h1, h2⟩
theorem SRow.kept (h : SRow W g n f) (hg : W.grownBy W' none) : SRow W' g n f := h.block (hg.block g h.lt (by simp))
theorem SRow.far {b : Nat} (h : SRow W g n f) (hg : W.grownBy W' (some b)) (hb : g ≠ b) : SRow W' g n f := h.block (hg.block g h.lt (by simpa using hb))
theorem SRow.congr (h : SRow W g n f) (e : ∀ i, i < n → f i = f' i) : SRow W g n f' := by
  obtain ⟨cur, h1, h2⟩ := h
  exact ⟨cur, h1, fun i hi => by rw [← e i hi]; exact h2 i hi⟩
theorem SRow.put (h : SRow W g n f) {i : Nat} (hi : i < n) (y : Sy) (e : W' = (W.setCell ⟨g, i * 2, none⟩ (.string y.1)).setCell ⟨g, i * 2 + 1, none⟩ (.int .i64 (y.2 : Int))) : SRow W' g n (fun j => if j = i then y else f j) ∧ W.grownBy W' (some g) := by
  obtain ⟨cur, h1, h2⟩ := h
  have p1 := heap_setCell_same W g (i * 2) _ _ (.string y.1) h1
  have p2 := heap_setCell_same _ g (i * 2 + 1) _ _ (.int .i64 (y.2 : Int)) p1
  rw [← e] at p2
  have hs : i * 2 + 1 < cur.size := (Array.getElem?_eq_some_iff.1 (h2 i hi).2).1
  refine ⟨⟨_, p2, fun j hj => ?_⟩, by rw [e]; exact grown_trans (grown_set _ _ _) (grown_set _ _ _)⟩
  obtain ⟨q1, q2⟩ := h2 j hj
  by_cases hji : j = i
  · subst hji
    simp only [if_pos]
    refine ⟨?_, ?_⟩
    · rw [Array.getElem?_setIfInBounds, if_neg (by omega), Array.getElem?_setIfInBounds, if_pos rfl, if_pos (by omega)]
    · rw [Array.getElem?_setIfInBounds, if_pos rfl, if_pos (by simpa using hs)]
  · simp only [hji, if_false]
    refine ⟨?_, ?_⟩
    · rw [Array.getElem?_setIfInBounds, if_neg (by omega), Array.getElem?_setIfInBounds, if_neg (by omega)]; exact q1
    · rw [Array.getElem?_setIfInBounds, if_neg (by omega), Array.getElem?_setIfInBounds, if_neg (by omega)]; exact q2
end
theorem info_partsR {P : Program} {t : TypeId} {z : Option Value} {a b : Nat} (h : (P.info? t).map (fun i => (i.zero, i.size, i.bytes)) = some (z, a, b)) : ∃ i, P.info? t = some i ∧ i.zero = z ∧ i.size = a ∧ i.bytes = b := by
  cases hi : P.info? t with
  | none => rw [hi] at h; cases h
  | some i => rw [hi] at h; simp only [Option.map_some, Option.some.injEq, Prod.mk.injEq] at h; exact ⟨i, rfl, h.1, h.2.1, h.2.2⟩
theorem Try.infoSay : (Try.prog.info? 57).map (fun i => (i.zero, i.size, i.bytes)) = some (some (.agg #[.string ⟨#[]⟩, .int .i64 0]), 2, 24) := by kernel_rfl
theorem Try.infoWays : (Try.prog.info? 59).map (fun i => (i.zero, i.size, i.bytes)) = some (some (.agg #[.slice none 0 0, .string ⟨#[]⟩, .int .i64 0]), 3, 48) := by kernel_rfl
theorem srow_made (w : World) (n : Nat) : SRow (w.alloc (.cells (madeCells #[.string ⟨#[]⟩, .int .i64 0] (n * 2)) 57)) w.heap.size n (fun _ => (⟨#[]⟩, 0)) := by
  refine ⟨_, heap_alloc_new w _, fun i hi => ⟨?_, ?_⟩⟩
  · simp [madeCells, show i * 2 < n * 2 by omega]
  · simp [madeCells, show i * 2 + 1 < n * 2 by omega, Nat.add_mod]
theorem make_says (w : World) (n : Nat) (hn : n ≤ 1000) : ∃ W, (Instr.makeSlice 55 (.int .i64 (n : Int)) (.int .i64 (n : Int))).run Try.prog w = .ok (.slice (some ⟨w.heap.size, 0, none⟩) n n) W ∧ SRow W w.heap.size n (fun _ => (⟨#[]⟩, 0)) ∧ w.grownBy W none ∧ W.heap.size = w.heap.size + 1 := by
  obtain ⟨i0, hi, hz0, hz1, hz2⟩ := info_partsR Try.infoSay
  have hmk := run_make (P := Try.prog) w 55 57 i0 (.agg #[.string ⟨#[]⟩, .int .i64 0]) Try.underlying55 hi hz0 .i64 .i64 (n : Int) (n : Int) (by omega) (by omega) (by rw [hz2]; omega) (by omega)
  rw [hz1, Int.toNat_natCast] at hmk
  exact ⟨_, hmk, srow_made w n, grown_alloc _ _, World.size_alloc _ _⟩

/-- A row of ways: where each one's sayings lie, and what is said of its end. -/
def ARow (W : World) (g n : Nat) (ad : Nat → Option Addr) (nl cl : Nat → Nat) (en : Nat → Sy) : Prop := ∃ cur : Array Value, W.heap[g]? = some (.cells cur 59 (0, 0)) ∧ ∀ i, i < n → cur[i * 3]? = some (.slice (ad i) (nl i) (cl i)) ∧ cur[i * 3 + 1]? = some (.string (en i).1) ∧ cur[i * 3 + 2]? = some (.int .i64 ((en i).2 : Int))
section
variable {W W' : World} {g n : Nat} {ad : Nat → Option Addr} {nl cl : Nat → Nat} {en : Nat → Sy}
theorem ARow.lt (h : ARow W g n ad nl cl en) : g < W.heap.size := by obtain ⟨cur, h1, _⟩ := h; exact (Array.getElem?_eq_some_iff.1 h1).1
theorem ARow.cell (h : ARow W g n ad nl cl en) {i : Nat} (hi : i < n) : W.cell? ⟨g, i * 3, none⟩ = some (.slice (ad i) (nl i) (cl i)) ∧ W.cell? ⟨g, i * 3 + 1, none⟩ = some (.string (en i).1) ∧ W.cell? ⟨g, i * 3 + 2, none⟩ = some (.int .i64 ((en i).2 : Int)) := by
  obtain ⟨cur, h1, h2⟩ := h
  obtain ⟨h3, h4, h5⟩ := h2 i hi
  exact ⟨by rw [cell_of_row _ _ _ _ _ (0, 0) h1]; exact h3, by rw [cell_of_row _ _ _ _ _ (0, 0) h1]; exact h4, by rw [cell_of_row _ _ _ _ _ (0, 0) h1]; exact h5⟩
theorem ARow.fz (h : ARow W g n ad nl cl en) (i : Nat) : W.frozen? ⟨g, i, none⟩ = false := by obtain ⟨cur, h1, _⟩ := h; exact frozen_of_row _ _ _ _ _ h1
theorem ARow.block (h : ARow W g n ad nl cl en) (e : W'.heap[g]? = W.heap[g]?) : ARow W' g n ad nl cl en := by obtain ⟨cur, h1, h2⟩ := h; exact ⟨cur, by rw [e]; exact h1, h2⟩
theorem ARow.kept (h : ARow W g n ad nl cl en) (hg : W.grownBy W' none) : ARow W' g n ad nl cl en := h.block (hg.block g h.lt (by simp))
theorem ARow.far {b : Nat} (h : ARow W g n ad nl cl en) (hg : W.grownBy W' (some b)) (hb : g ≠ b) : ARow W' g n ad nl cl en := h.block (hg.block g h.lt (by simpa using hb))
theorem ARow.ne {b m : Nat} {f : Nat → Sy} (h : ARow W g n ad nl cl en) (h' : SRow W b m f) : g ≠ b := fun e => by
  obtain ⟨c1, h1, _⟩ := h
  obtain ⟨c2, h2, _⟩ := h'
  rw [e, h2] at h1
  cases h1
/-- What is said of an end is written. -/
theorem ARow.put (h : ARow W g n ad nl cl en) {i : Nat} (hi : i < n) (y : Sy) (e : W' = (W.setCell ⟨g, i * 3 + 1, none⟩ (.string y.1)).setCell ⟨g, i * 3 + 2, none⟩ (.int .i64 (y.2 : Int))) : ARow W' g n ad nl cl (fun j => if j = i then y else en j) ∧ W.grownBy W' (some g) := by
  obtain ⟨cur, h1, h2⟩ := h
  have p1 := heap_setCell_same W g (i * 3 + 1) _ _ (.string y.1) h1
  have p2 := heap_setCell_same _ g (i * 3 + 2) _ _ (.int .i64 (y.2 : Int)) p1
  rw [← e] at p2
  have hs : i * 3 + 2 < cur.size := (Array.getElem?_eq_some_iff.1 (h2 i hi).2.2).1
  refine ⟨⟨_, p2, fun j hj => ?_⟩, by rw [e]; exact grown_trans (grown_set _ _ _) (grown_set _ _ _)⟩
  obtain ⟨q0, q1, q2⟩ := h2 j hj
  refine ⟨?_, ?_⟩
  · rw [Array.getElem?_setIfInBounds, if_neg (by omega), Array.getElem?_setIfInBounds, if_neg (by omega)]; exact q0
  · by_cases hji : j = i
    · subst hji
      simp only [if_pos]
      refine ⟨?_, ?_⟩
      · rw [Array.getElem?_setIfInBounds, if_neg (by omega), Array.getElem?_setIfInBounds, if_pos rfl, if_pos (by omega)]
      · rw [Array.getElem?_setIfInBounds, if_pos rfl, if_pos (by simpa using hs)]
    · simp only [hji, if_false]
      refine ⟨?_, ?_⟩
      · rw [Array.getElem?_setIfInBounds, if_neg (by omega), Array.getElem?_setIfInBounds, if_neg (by omega)]; exact q1
      · rw [Array.getElem?_setIfInBounds, if_neg (by omega), Array.getElem?_setIfInBounds, if_neg (by omega)]; exact q2
/-- All of one is written. -/
theorem ARow.lay (h : ARow W g n ad nl cl en) {i : Nat} (hi : i < n) (a : Option Addr) (m c : Nat) (y : Sy) (e : W' = ((W.setCell ⟨g, i * 3, none⟩ (.slice a m c)).setCell ⟨g, i * 3 + 1, none⟩ (.string y.1)).setCell ⟨g, i * 3 + 2, none⟩ (.int .i64 (y.2 : Int))) : ARow W' g n (fun j => if j = i then a else ad j) (fun j => if j = i then m else nl j) (fun j => if j = i then c else cl j) (fun j => if j = i then y else en j) ∧ W.grownBy W' (some g) := by
  obtain ⟨cur, h1, h2⟩ := h
  have p0 := heap_setCell_same W g (i * 3) _ _ (.slice a m c) h1
  have p1 := heap_setCell_same _ g (i * 3 + 1) _ _ (.string y.1) p0
  have p2 := heap_setCell_same _ g (i * 3 + 2) _ _ (.int .i64 (y.2 : Int)) p1
  rw [← e] at p2
  have hs : i * 3 + 2 < cur.size := (Array.getElem?_eq_some_iff.1 (h2 i hi).2.2).1
  refine ⟨⟨_, p2, fun j hj => ?_⟩, by rw [e]; exact grown_trans (grown_set _ _ _) (grown_trans (grown_set _ _ _) (grown_set _ _ _))⟩
  obtain ⟨q0, q1, q2⟩ := h2 j hj
  by_cases hji : j = i
  · subst hji
    simp only [if_pos]
    refine ⟨?_, ?_, ?_⟩
    · rw [Array.getElem?_setIfInBounds, if_neg (by omega), Array.getElem?_setIfInBounds, if_neg (by omega), Array.getElem?_setIfInBounds, if_pos rfl, if_pos (by omega)]
    · rw [Array.getElem?_setIfInBounds, if_neg (by omega), Array.getElem?_setIfInBounds, if_pos rfl, if_pos (by simp; omega)]
    · rw [Array.getElem?_setIfInBounds, if_pos rfl, if_pos (by simpa using hs)]
  · simp only [hji, if_false]
    refine ⟨?_, ?_, ?_⟩
    · rw [Array.getElem?_setIfInBounds, if_neg (by omega), Array.getElem?_setIfInBounds, if_neg (by omega), Array.getElem?_setIfInBounds, if_neg (by omega)]; exact q0
    · rw [Array.getElem?_setIfInBounds, if_neg (by omega), Array.getElem?_setIfInBounds, if_neg (by omega), Array.getElem?_setIfInBounds, if_neg (by omega)]; exact q1
    · rw [Array.getElem?_setIfInBounds, if_neg (by omega), Array.getElem?_setIfInBounds, if_neg (by omega), Array.getElem?_setIfInBounds, if_neg (by omega)]; exact q2
end
theorem make_ways (w : World) (n : Nat) (hn : n ≤ 1000) : ∃ W, (Instr.makeSlice 54 (.int .i64 (n : Int)) (.int .i64 (n : Int))).run Try.prog w = .ok (.slice (some ⟨w.heap.size, 0, none⟩) n n) W ∧ ARow W w.heap.size n (fun _ => none) (fun _ => 0) (fun _ => 0) (fun _ => (⟨#[]⟩, 0)) ∧ w.grownBy W none ∧ W.heap.size = w.heap.size + 1 := by
  obtain ⟨i0, hi, hz0, hz1, hz2⟩ := info_partsR Try.infoWays
  have hmk := run_make (P := Try.prog) w 54 59 i0 (.agg #[.slice none 0 0, .string ⟨#[]⟩, .int .i64 0]) Try.underlying54 hi hz0 .i64 .i64 (n : Int) (n : Int) (by omega) (by omega) (by rw [hz2]; omega) (by omega)
  rw [hz1, Int.toNat_natCast] at hmk
  refine ⟨_, hmk, ⟨_, heap_alloc_new w _, fun i hi => ⟨?_, ?_, ?_⟩⟩, grown_alloc _ _, World.size_alloc _ _⟩
  · simp [madeCells, Value.cells, show i * 3 < n * 3 by omega]
  · simp [madeCells, Value.cells, show i * 3 + 1 < n * 3 by omega, Nat.add_mod]
  · simp [madeCells, Value.cells, show i * 3 + 2 < n * 3 by omega, Nat.add_mod]

end Go.Proofs.Yticmfgclkepgoaa

namespace Go.Proofs.Yticmfgclkepgoaa
open Go.RowKit
set_option linter.unusedVariables false
set_option linter.unusedSimpArgs false

/-- A box of ways. -/
def C3 (W : World) (b : Nat) (v : Value) (y : Sy) : Prop := W.heap[b]? = some (.cells #[v, .string y.1, .int .i64 (y.2 : Int)] 59 (0, 0))
theorem C3.lt {W : World} {b : Nat} {v : Value} {y : Sy} (h : C3 W b v y) : b < W.heap.size := (Array.getElem?_eq_some_iff.1 h).1
theorem C3.kept {W W' : World} {b : Nat} {v : Value} {y : Sy} (h : C3 W b v y) (hg : W.grownBy W' none) : C3 W' b v y := (hg.block b h.lt (by simp)).trans h
theorem C3.far {W W' : World} {b g : Nat} {v : Value} {y : Sy} (h : C3 W b v y) (hg : W.grownBy W' (some g)) (hb : b ≠ g) : C3 W' b v y := (hg.block b h.lt (by simpa using hb)).trans h
theorem C3.get {W : World} {b : Nat} {v : Value} {y : Sy} (h : C3 W b v y) : W.cell? ⟨b, 0, none⟩ = some v ∧ W.cell? ⟨b, 1, none⟩ = some (.string y.1) ∧ W.cell? ⟨b, 2, none⟩ = some (.int .i64 (y.2 : Int)) :=
  ⟨by rw [cell_of_row _ _ _ _ _ (0, 0) h]; rfl, by rw [cell_of_row _ _ _ _ _ (0, 0) h]; rfl, by rw [cell_of_row _ _ _ _ _ (0, 0) h]; rfl⟩
theorem C3.fz {W : World} {b : Nat} {v : Value} {y : Sy} (h : C3 W b v y) (i : Nat) : W.frozen? ⟨b, i, none⟩ = false := frozen_of_row _ _ i _ _ h
theorem C3.ne {W : World} {b g n : Nat} {v : Value} {y : Sy} {f : Nat → Sy} (h : C3 W b v y) (h' : SRow W g n f) : b ≠ g := fun e => by
  obtain ⟨c2, h2, _⟩ := h'
  unfold C3 at h
  rw [e, h2] at h
  cases h
theorem C3.set {W W' : World} {b : Nat} {v v' : Value} {y y' : Sy} (h : C3 W b v y) (e : W' = ((W.setCell ⟨b, 0, none⟩ v').setCell ⟨b, 1, none⟩ (.string y'.1)).setCell ⟨b, 2, none⟩ (.int .i64 (y'.2 : Int))) : C3 W' b v' y' ∧ W.grownBy W' (some b) := by
  have p0 := heap_setCell_same W b 0 _ _ v' h
  have p1 := heap_setCell_same _ b 1 _ _ (.string y'.1) p0
  have p2 := heap_setCell_same _ b 2 _ _ (.int .i64 (y'.2 : Int)) p1
  rw [← e] at p2
  exact ⟨by show _ = _; simpa using p2, by rw [e]; exact grown_trans (grown_set _ _ _) (grown_trans (grown_set _ _ _) (grown_set _ _ _))⟩
theorem C3.setE {W W' : World} {b : Nat} {v : Value} {y y' : Sy} (h : C3 W b v y) (e : W' = (W.setCell ⟨b, 1, none⟩ (.string y'.1)).setCell ⟨b, 2, none⟩ (.int .i64 (y'.2 : Int))) : C3 W' b v y' ∧ W.grownBy W' (some b) := by
  have p1 := heap_setCell_same W b 1 _ _ (.string y'.1) h
  have p2 := heap_setCell_same _ b 2 _ _ (.int .i64 (y'.2 : Int)) p1
  rw [← e] at p2
  exact ⟨by show _ = _; simpa using p2, by rw [e]; exact grown_trans (grown_set _ _ _) (grown_set _ _ _)⟩
/-- Behind what is made first: the sayings' row, and the ways' box. -/
def WMid (W1 : World) (n : Nat) (z : Sy) (v : Value) (W : World) : Prop := ∃ b g, v = .pointer (some ⟨b, 0, none⟩) ∧ C3 W b (.slice (some ⟨g, 0, none⟩) n n) z ∧ SRow W g n (fun _ => (⟨#[]⟩, 0)) ∧ W1.grownBy W none ∧ W1.heap.size ≤ g ∧ W1.heap.size ≤ b
theorem WMid.gr {W1 W : World} {n : Nat} {z : Sy} {v : Value} (h : WMid W1 n z v W) : W1.grownBy W none := by obtain ⟨b, g, _, _, _, h, _⟩ := h; exact h
abbrev zWays : Obj := .cells #[.slice none 0 0, .string ⟨#[]⟩, .int .i64 0] 59
abbrev nWays (g n : Nat) (z : Sy) : Obj := .cells #[.slice (some ⟨g, 0, none⟩) n n, .string z.1, .int .i64 (z.2 : Int)] 59
theorem c3_zero (W : World) : C3 (W.alloc zWays) W.heap.size (.slice none 0 0) (⟨#[]⟩, 0) := heap_alloc_new W _
theorem c3_new (W : World) (g n : Nat) (z : Sy) : C3 (W.alloc (nWays g n z)) W.heap.size (.slice (some ⟨g, 0, none⟩) n n) z := heap_alloc_new W _
theorem c3_x {W1 w9 : World} {MC : Array Value} (hg : ((W1.alloc (.cells MC 57)).alloc zWays).drew.grownBy w9 none) : C3 w9 (W1.heap.size + 1) (.slice none 0 0) (⟨#[]⟩, 0) := by
  have c := c3_zero (W1.alloc (.cells MC 57))
  rw [World.size_alloc] at c
  exact (c.kept (grown_drew (grown_refl _ _))).kept hg
theorem c3_y {W1 w9 : World} {MC : Array Value} (hg : ((W1.alloc zWays).alloc (.cells MC 57)).drew.grownBy w9 none) : C3 w9 W1.heap.size (.slice none 0 0) (⟨#[]⟩, 0) :=
  (((c3_zero W1).kept (grown_alloc _ _)).kept (grown_drew (grown_refl _ _))).kept hg
theorem c3_z {W1 w9 : World} (hg : (W1.alloc zWays).drew.grownBy w9 none) : C3 w9 W1.heap.size (.slice none 0 0) (⟨#[]⟩, 0) :=
  ((c3_zero W1).kept (grown_drew (grown_refl _ _))).kept hg
section
variable {W1 w9 : World} {n : Nat} {z : Sy} {MC : Array Value}
variable (HM : ∀ V : World, SRow (V.alloc (.cells MC 57)) V.heap.size n (fun _ => (⟨#[]⟩, 0)))
include HM
/-- The row is made ahead of the call, the box behind it. -/
theorem wmid_1 (hg : (W1.alloc (.cells MC 57)).drew.grownBy w9 none) : WMid W1 n z (.pointer (some ⟨w9.heap.size, 0, none⟩)) (w9.alloc (nWays W1.heap.size n z)) := by
  replace hg : (W1.drew.alloc (.cells MC 57)).grownBy w9 none := hg
  have gg : W1.grownBy w9 none := grown_trans (grown_trans (grown_drew (grown_refl _ _)) (grown_alloc _ _)) hg
  exact ⟨_, W1.heap.size, rfl, c3_new _ _ _ _, ((HM W1.drew).kept hg).kept (grown_alloc _ _), grown_trans gg (grown_alloc _ _), Nat.le_refl _, gg.size⟩
theorem wmid_2 (hg : ((W1.alloc (.cells MC 57)).alloc zWays).drew.grownBy w9 none) {F : World} (e : F = ((w9.setCell ⟨W1.heap.size + 1, 0, none⟩ (.slice (some ⟨W1.heap.size, 0, none⟩) n n)).setCell ⟨W1.heap.size + 1, 1, none⟩ (.string z.1)).setCell ⟨W1.heap.size + 1, 2, none⟩ (.int .i64 (z.2 : Int))) : WMid W1 n z (.pointer (some ⟨W1.heap.size + 1, 0, none⟩)) F := by
  replace hg : ((W1.drew.alloc (.cells MC 57)).alloc zWays).grownBy w9 none := hg
  have gg : W1.grownBy w9 none := grown_trans (grown_trans (grown_trans (grown_drew (grown_refl _ _)) (grown_alloc _ _)) (grown_alloc _ _)) hg
  have c := (c3_zero (W1.drew.alloc (.cells MC 57))).kept hg
  rw [World.size_alloc] at c
  have r := ((HM W1.drew).kept (grown_alloc _ zWays)).kept hg
  obtain ⟨c', g'⟩ := C3.set c e
  exact ⟨_, W1.heap.size, rfl, c', r.far g' (by show W1.heap.size ≠ W1.heap.size + 1; omega), grown_new gg g' (by show W1.heap.size ≤ W1.heap.size + 1; omega), Nat.le_refl _, by omega⟩
theorem wmid_3 (hg : W1.drew.grownBy w9 none) : WMid W1 n z (.pointer (some ⟨w9.heap.size + 1, 0, none⟩)) ((w9.alloc (.cells MC 57)).alloc (nWays w9.heap.size n z)) := by
  have gg : W1.grownBy w9 none := grown_trans (grown_drew (grown_refl _ _)) hg
  have c := c3_new (w9.alloc (.cells MC 57)) w9.heap.size n z
  rw [World.size_alloc] at c
  exact ⟨_, w9.heap.size, rfl, c, (HM w9).kept (grown_alloc _ _), grown_trans gg (grown_trans (grown_alloc _ _) (grown_alloc _ _)), gg.size, Nat.le_succ_of_le gg.size⟩
theorem wmid_4 (hg : W1.drew.grownBy w9 none) : WMid W1 n z (.pointer (some ⟨w9.heap.size, 0, none⟩)) ((w9.alloc (nWays (w9.heap.size + 1) n z)).alloc (.cells MC 57)) := by
  have gg : W1.grownBy w9 none := grown_trans (grown_drew (grown_refl _ _)) hg
  have r := HM (w9.alloc (nWays (w9.heap.size + 1) n z))
  rw [World.size_alloc] at r
  exact ⟨_, w9.heap.size + 1, rfl, (c3_new w9 _ _ _).kept (grown_alloc _ _), r, grown_trans gg (grown_trans (grown_alloc _ _) (grown_alloc _ _)), Nat.le_succ_of_le gg.size, gg.size⟩
theorem wmid_5 (hg : ((W1.alloc zWays).alloc (.cells MC 57)).drew.grownBy w9 none) {F : World} (e : F = ((w9.setCell ⟨W1.heap.size, 0, none⟩ (.slice (some ⟨W1.heap.size + 1, 0, none⟩) n n)).setCell ⟨W1.heap.size, 1, none⟩ (.string z.1)).setCell ⟨W1.heap.size, 2, none⟩ (.int .i64 (z.2 : Int))) : WMid W1 n z (.pointer (some ⟨W1.heap.size, 0, none⟩)) F := by
  replace hg : ((W1.drew.alloc zWays).alloc (.cells MC 57)).grownBy w9 none := hg
  have gg : W1.grownBy w9 none := grown_trans (grown_trans (grown_trans (grown_drew (grown_refl _ _)) (grown_alloc _ _)) (grown_alloc _ _)) hg
  have c := ((c3_zero W1.drew).kept (grown_alloc _ (.cells MC 57))).kept hg
  have r := HM (W1.drew.alloc zWays)
  rw [World.size_alloc] at r
  have r' := r.kept hg
  obtain ⟨c', g'⟩ := C3.set c e
  exact ⟨_, W1.heap.size + 1, rfl, c', r'.far g' (by show W1.heap.size + 1 ≠ W1.heap.size; omega), grown_new gg g' (Nat.le_refl _), by omega, Nat.le_refl _⟩
theorem wmid_6 (hg : (W1.alloc zWays).drew.grownBy w9 none) {F : World} (e : F = (((w9.setCell ⟨W1.heap.size, 0, none⟩ (.slice (some ⟨w9.heap.size, 0, none⟩) n n)).setCell ⟨W1.heap.size, 1, none⟩ (.string z.1)).setCell ⟨W1.heap.size, 2, none⟩ (.int .i64 (z.2 : Int))).alloc (.cells MC 57)) : WMid W1 n z (.pointer (some ⟨W1.heap.size, 0, none⟩)) F := by
  replace hg : (W1.drew.alloc zWays).grownBy w9 none := hg
  have gg : W1.grownBy w9 none := grown_trans (grown_trans (grown_drew (grown_refl _ _)) (grown_alloc _ _)) hg
  have c := (c3_zero W1.drew).kept hg
  obtain ⟨V, hV⟩ : ∃ V, V = ((w9.setCell ⟨W1.heap.size, 0, none⟩ (.slice (some ⟨w9.heap.size, 0, none⟩) n n)).setCell ⟨W1.heap.size, 1, none⟩ (.string z.1)).setCell ⟨W1.heap.size, 2, none⟩ (.int .i64 (z.2 : Int)) := ⟨_, rfl⟩
  obtain ⟨c', g'⟩ := C3.set c hV
  have hs : V.heap.size = w9.heap.size := by rw [hV]; simp [World.setCell]
  have r := HM V
  rw [hs] at r
  rw [← hV] at e
  subst e
  exact ⟨_, w9.heap.size, rfl, c'.kept (grown_alloc _ _), r, grown_trans (grown_new gg g' (Nat.le_refl _)) (grown_alloc _ _), gg.size, Nat.le_refl _⟩
theorem wmid_6b (hg : (W1.alloc zWays).drew.grownBy w9 none) {F : World} (e : F = (((w9.alloc (.cells MC 57)).setCell ⟨W1.heap.size, 0, none⟩ (.slice (some ⟨w9.heap.size, 0, none⟩) n n)).setCell ⟨W1.heap.size, 1, none⟩ (.string z.1)).setCell ⟨W1.heap.size, 2, none⟩ (.int .i64 (z.2 : Int))) : WMid W1 n z (.pointer (some ⟨W1.heap.size, 0, none⟩)) F := by
  replace hg : (W1.drew.alloc zWays).grownBy w9 none := hg
  have gg : W1.grownBy w9 none := grown_trans (grown_trans (grown_drew (grown_refl _ _)) (grown_alloc _ _)) hg
  have hlt := ((c3_zero W1.drew).kept hg).lt
  have c := ((c3_zero W1.drew).kept hg).kept (grown_alloc _ (.cells MC 57))
  obtain ⟨c', g'⟩ := C3.set c e
  refine ⟨_, w9.heap.size, rfl, c', (HM w9).far g' ?_, grown_new (grown_trans gg (grown_alloc _ _)) g' (Nat.le_refl _), gg.size, Nat.le_refl _⟩
  intro e2
  have : W1.drew.heap.size = W1.heap.size := rfl
  omega
end

/-- What holds while a state's ways are gathered. -/
structure WSt (W1 : World) (b g n : Nat) (en : Sy) (f : Nat → Sy) (W : World) : Prop where
  box : C3 W b (.slice (some ⟨g, 0, none⟩) n n) en
  row : SRow W g n f
  gr : W1.grownBy W none
  lg : W1.heap.size ≤ g
  lb : W1.heap.size ≤ b
theorem WSt.kept {W1 W W' : World} {b g n : Nat} {en : Sy} {f : Nat → Sy} (h : WSt W1 b g n en f W) (hg : W.grownBy W' none) : WSt W1 b g n en f W' := ⟨h.box.kept hg, h.row.kept hg, grown_trans h.gr hg, h.lg, h.lb⟩
theorem WSt.congr {W1 W : World} {b g n : Nat} {en : Sy} {f f' : Nat → Sy} (h : WSt W1 b g n en f W) (e : ∀ i, i < n → f i = f' i) : WSt W1 b g n en f' W := ⟨h.box, h.row.congr e, h.gr, h.lg, h.lb⟩
theorem WSt.put {W1 W W' : World} {b g n : Nat} {en : Sy} {f : Nat → Sy} (h : WSt W1 b g n en f W) {i : Nat} (hi : i < n) (y : Sy) (e : W' = (W.setCell ⟨g, i * 2, none⟩ (.string y.1)).setCell ⟨g, i * 2 + 1, none⟩ (.int .i64 (y.2 : Int))) : WSt W1 b g n en (fun j => if j = i then y else f j) W' := by
  have p := h.row.put hi y e
  have gg : W.grownBy W' (some g) := by rw [e]; exact grown_trans (grown_set _ _ _) (grown_set _ _ _)
  exact ⟨h.box.far gg (h.box.ne h.row), p.1, grown_new h.gr gg h.lg, h.lg, h.lb⟩
theorem WSt.putE {W1 W W' : World} {b g n : Nat} {en : Sy} {f : Nat → Sy} (h : WSt W1 b g n en f W) (y : Sy) (e : W' = (W.setCell ⟨b, 1, none⟩ (.string y.1)).setCell ⟨b, 2, none⟩ (.int .i64 (y.2 : Int))) : WSt W1 b g n y f W' := by
  obtain ⟨c, gg⟩ := h.box.setE e
  exact ⟨c, h.row.far gg (fun e => h.box.ne h.row e.symm), grown_new h.gr gg h.lb, h.lg, h.lb⟩
def SWg (b g n : Nat) (W : World) : Prop := W.cell? ⟨b, 0, none⟩ = some (.slice (some ⟨g, 0, none⟩) n n)
theorem SWg.kept {b g n : Nat} {W W' : World} (h : SWg b g n W) (hg : W.grownBy W' none) : SWg b g n W' := hg.cell h (by simp)
theorem WSt.sw {W1 W : World} {b g n : Nat} {en : Sy} {f : Nat → Sy} (h : WSt W1 b g n en f W) : SWg b g n W := h.box.get.1

theorem orY_size (x y : Sy) : (orY x y).1.size ≤ x.1.size + y.1.size + 5 := by
  unfold orY
  split
  · omega
  · split
    · omega
    · have h1 := within_size x.1 x.2 3
      have h2 := within_size y.1 y.2 3
      have : ∀ m, (oneT m).size = 1 := fun _ => rfl
      simp only [ByteArray.size_append, this]
      omega
theorem leadY_size (nx : Nat → Nat → Nat) (s t l : Nat) : (leadY nx s t l).1.size ≤ 1 + l * 6 := by
  induction l with
  | zero => exact Nat.le_refl _
  | succ l ih =>
    unfold leadY
    split
    · have := orY_size (leadY nx s t l) (oneT (97 + l), 0)
      have e : (oneT (97 + l)).size = 1 := rfl
      simp only [e] at this
      omega
    · omega

def WaysPost (n : Nat) (ld : Nat → Sy) (en : Sy) (w : World) (E : Ending) (w' : World) : Prop := ∃ g, E = .returned (.agg #[.slice (some ⟨g, 0, none⟩) n n, .string en.1, .int .i64 (en.2 : Int)]) ∧ SRow w' g n ld ∧ w.grownBy w' none ∧ w.heap.size ≤ g
theorem ways_end {w W1 V : World} {b g n : Nat} {en y0 : Sy} {f : Nat → Sy} {v0 : Value} (h : WSt W1 b g n en f V) (c : C3 V (w.heap.size + 1) v0 y0) (hg : w.grownBy W1 none) (hs : W1.heap.size = w.heap.size + 2) :
    ∃ W5, W5 = ((V.setCell ⟨w.heap.size + 1, 0, none⟩ (.slice (some ⟨g, 0, none⟩) n n)).setCell ⟨w.heap.size + 1, 1, none⟩ (.string en.1)).setCell ⟨w.heap.size + 1, 2, none⟩ (.int .i64 (en.2 : Int)) ∧
      W5.cell? ⟨w.heap.size + 1, 0, none⟩ = some (.slice (some ⟨g, 0, none⟩) n n) ∧ W5.cell? ⟨w.heap.size + 1, 1, none⟩ = some (.string en.1) ∧ W5.cell? ⟨w.heap.size + 1, 2, none⟩ = some (.int .i64 (en.2 : Int)) ∧
      WaysPost n f en w (.returned (.agg #[.slice (some ⟨g, 0, none⟩) n n, .string en.1, .int .i64 (en.2 : Int)])) W5 := by
  obtain ⟨W5, e⟩ : ∃ W5, W5 = ((V.setCell ⟨w.heap.size + 1, 0, none⟩ (.slice (some ⟨g, 0, none⟩) n n)).setCell ⟨w.heap.size + 1, 1, none⟩ (.string en.1)).setCell ⟨w.heap.size + 1, 2, none⟩ (.int .i64 (en.2 : Int)) := ⟨_, rfl⟩
  obtain ⟨c', g'⟩ := C3.set c e
  have hlg := h.lg
  obtain ⟨k0, k1, k2⟩ := c'.get
  exact ⟨W5, e, k0, k1, k2, g, rfl, h.row.far g' (by omega), grown_new (grown_trans hg h.gr) g' (by omega), by omega⟩

def SD (b : Nat) (a : Option Addr) (n c : Nat) (W : World) : Prop := W.cell? ⟨b, 2, none⟩ = some (.slice a n c)
theorem SD.kept {b n c : Nat} {a : Option Addr} {W W' : World} (h : SD b a n c W) (hg : W.grownBy W' none) : SD b a n c W' := hg.cell h (by simp)

set_option maxHeartbeats 12800000 in
set_option maxRecDepth 100000 in
theorem waysOf_any (L S : Int) (R : List (List Int)) (M : List Int) (a a' : Option Addr) (c c' : Nat) (s : Nat) (w : World) (h : DetAt w ⟨L, S, R, M⟩ a a') (hG : Good ⟨L, S, R, M⟩) (hn3 : R.length ≤ 3) (hs : s < R.length) :
    Calls Try.prog 23 #[.agg #[.int .i64 L, .int .i64 S, .slice a R.length c, .slice a' M.length c'], .int .i64 (s : Int)] w (WaysPost R.length (fun t => leadY (Dfa.nx ⟨L, S, R, M⟩) s t L.toNat) (endY (Dfa.mk1 ⟨L, S, R, M⟩) s) w) := by
  have CN : Hid (∀ V, Calls Try.prog 38 #[] V (Says (yV noneY) V)) := none_y
  have CE : Hid (∀ V, Calls Try.prog 39 #[] V (Says (yV emptyY) V)) := empty_y
  have CO : Hid (∀ (x y : Sy) (V : World), x.1.size ≤ 50000 → y.1.size ≤ 50000 → Calls Try.prog 26 #[yV x, yV y] V (Says (yV (orY x y)) V)) := fun x y V h1 h2 => or_any x y V h1 h2
  have hl4 := hG.l4
  have hl1 := hG.l1
  have hml := hG.ml
  simp only at hl4 hl1 hml
  obtain ⟨bA, oA, rfl, hcA⟩ := h.rows.at hs
  obtain ⟨x, cx, hck, hix, _⟩ := hcA s hs
  have hrow := hG.row hs
  simp only at hrow hck hix
  rw [hrow] at hck
  obtain ⟨bx, ox, rfl, hcx⟩ := hix.at (k := 0) (by rw [hrow]; omega)
  obtain ⟨bM, oM, rfl, hcM⟩ := h.marks.at (k := s) (by show s < M.length; omega)
  have hcM2 := hcM s (by show s < M.length; omega)
  obtain ⟨lN, hlN⟩ : ∃ lN, L.toNat = lN := ⟨_, rfl⟩
  obtain ⟨nx, hnx⟩ : ∃ nx, Dfa.nx ⟨L, S, R, M⟩ = nx := ⟨_, rfl⟩
  obtain ⟨mk, hmk1⟩ : ∃ mk, Dfa.mk1 ⟨L, S, R, M⟩ = mk := ⟨_, rfl⟩
  have HX : Hid (∀ V, w.grownBy V none → V.cell? ⟨bA, oA + s, none⟩ = some (.slice (some ⟨bx, ox, none⟩) lN cx) ∧ (∀ k, k < lN → V.cell? ⟨bx, ox + k, none⟩ = some (.int .i64 ((nx s k : Nat) : Int)) ∧ nx s k < R.length) ∧ V.cell? ⟨bM, oM + s, none⟩ = some (.int .i64 (M.getD s 0))) := fun V hV => by
    refine ⟨hV.cell (by rw [← hlN]; exact hck) (by simp), fun k hk => ?_, hV.cell hcM2 (by simp)⟩
    have e := hG.nx_eq hs (a := k) (by rw [hlN]; exact hk)
    have e2 := hG.nx_lt hs (a := k) (by rw [hlN]; exact hk)
    have e3 := hcx k (by rw [hrow, hlN]; exact hk)
    simp only at e e2
    rw [e] at e3
    rw [← hnx]
    exact ⟨hV.cell e3 (by simp), e2⟩
  obtain ⟨mv, hmv⟩ : ∃ mv, M.getD s 0 = mv := ⟨_, rfl⟩
  have HMk : Hid (mk s = decide (mv = 1)) := by show mk s = _; rw [← hmk1, ← hmv]; rfl
  rw [hlN, hnx, hmk1]
  rw [hmv] at HX
  have hl5 : lN ≤ 4 := by omega
  have hsM : (s : Int) < (M.length : Int) := by omega
  generalize M.length = nm at *
  obtain ⟨n, hnn⟩ : ∃ n, R.length = n := ⟨_, rfl⟩
  rw [hnn] at HX hn3 hs hml ⊢
  have hn : n ≤ 3 := hn3
  have hsn : (s : Int) < (n : Int) := by omega
  clear h hG hl4 hl1 hcA hck hix hrow hcx hcM hcM2 hlN hnx hmk1 hmv hnn hml
  obtain ⟨MC, hMC⟩ : ∃ MC, MC = madeCells #[Value.string ⟨#[]⟩, .int .i64 0] (n * 2) := ⟨_, rfl⟩
  have HM : Hid (∀ V : World, SRow (V.alloc (.cells MC 57)) V.heap.size n (fun _ => (⟨#[]⟩, 0))) := fun V => by rw [hMC]; exact srow_made V n
  have hmk : ∀ V : World, (Instr.makeSlice 55 (.int .i64 (n : Int)) (.int .i64 (n : Int))).run Try.prog V = .ok (.slice (some ⟨V.heap.size, 0, none⟩) n n) (V.alloc (.cells MC 57)) := fun V => by
    rw [hMC]
    obtain ⟨i0, hi, hz0, hz1, hz2⟩ := info_partsR Try.infoSay
    have hmk := run_make (P := Try.prog) V 55 57 i0 (.agg #[.string ⟨#[]⟩, .int .i64 0]) Try.underlying55 hi hz0 .i64 .i64 (n : Int) (n : Int) (by omega) (by omega) (by rw [hz2]; omega) (by omega)
    rw [hz1, Int.toNat_natCast] at hmk
    exact hmk
  obtain ⟨W1, hW1⟩ : ∃ W1, W1 = (w.alloc (.cells #[.int .i64 L, .int .i64 S, .slice (some ⟨bA, oA, none⟩) n c, .slice (some ⟨bM, oM, none⟩) nm c'] 25)).alloc zWays := ⟨_, rfl⟩
  have S0 : Hid (SD w.heap.size (some ⟨bA, oA, none⟩) n c W1) := by
    show W1.cell? _ = _
    rw [hW1]
    refine (grown_alloc _ _).cell ?_ (by simp)
    rw [cell_of_row _ _ 2 _ _ (0, 0) (heap_alloc_new w _)]; rfl
  have HW1 : Hid (W1 = _) := hW1
  have HD : Hid (∀ V, W1.grownBy V none → V.cell? ⟨w.heap.size, 2, none⟩ = some (.slice (some ⟨bA, oA, none⟩) n c) ∧ V.cell? ⟨w.heap.size, 3, none⟩ = some (.slice (some ⟨bM, oM, none⟩) nm c') ∧ C3 V (w.heap.size + 1) (.slice none 0 0) (⟨#[]⟩, 0)) := fun V hV => by
    have q3 : W1.cell? ⟨w.heap.size, 3, none⟩ = some (.slice (some ⟨bM, oM, none⟩) nm c') := by
      rw [hW1]
      refine (grown_alloc _ _).cell ?_ (by simp)
      rw [cell_of_row _ _ 3 _ _ (0, 0) (heap_alloc_new w _)]; rfl
    have q4 : C3 W1 (w.heap.size + 1) (.slice none 0 0) (⟨#[]⟩, 0) := by
      have := c3_zero (w.alloc (.cells #[.int .i64 L, .int .i64 S, .slice (some ⟨bA, oA, none⟩) n c, .slice (some ⟨bM, oM, none⟩) nm c'] 25))
      rw [World.size_alloc] at this
      rw [hW1]; exact this
    exact ⟨hV.cell S0.out (by simp), hV.cell q3 (by simp), q4.kept hV⟩
  have GW1 : Hid (w.grownBy W1 none ∧ W1.heap.size = w.heap.size + 2) := by
    refine ⟨by rw [hW1]; exact grown_trans (grown_alloc _ _) (grown_alloc _ _), by rw [hW1]; simp⟩
  have HNo : Hid (∀ t, leadY nx s t 0 = noneY) := fun t => rfl
  have HEn : Hid (endY mk s = if mv = 1 then emptyY else noneY) := by
    show endY mk s = _
    unfold endY
    rw [HMk.out]
    simp
  clear HMk
  obtain ⟨nT, nk, hny⟩ : ∃ nT nk, noneY = (nT, nk) := ⟨_, _, rfl⟩
  rw [hny] at CN HNo HEn
  obtain ⟨eT, ek, hey⟩ : ∃ eT ek, emptyY = (eT, ek) := ⟨_, _, rfl⟩
  rw [hey] at CE HEn
  clear hW1 hMC hny hey
  go_enter Try.func23, Try.ntmps23
  go_wp2_with fail
  rw [← HW1.out]
  go_cut [5] (fun v wc => WMid W1 n (nT, nk) v wc)
  case first =>
    refine wp_region_held_drew (S := SD w.heap.size (some ⟨bA, oA, none⟩) n c) (by kernel_rfl) (S0.out.kept (grown_drew (grown_refl _ _))) (fun hHeld => ?_)
    refine wpAnyH_take (i := 0) (v := ?_) rfl (by kernel_rfl) (by kernel_rfl) (by kernel_rfl) (fun _ _ _ h => h) (Or.inl ⟨by rfl, ?_⟩) (by assumption) ?_
    rotate_left
    · intro W hSw
      have t1 := hSw
      unfold SD at t1
      go_simp
      with_reducible rfl
    try simp only [Act.put, List.getElem_toArray, List.getElem_cons_succ, List.getElem_cons_zero, List.setIfInBounds_toArray, List.set_cons_zero, List.set_cons_succ]
    refine wpAnyH_take (i := 1) (v := ?_) rfl (by kernel_rfl) (by kernel_rfl) (by kernel_rfl) (fun _ _ _ h => h) (Or.inl ⟨by rfl, ?_⟩) (by assumption) ?_
    rotate_left
    · intro W hSw
      have t1 := hSw
      unfold SD at t1
      go_simp
      with_reducible rfl
    try simp only [Act.put, List.getElem_toArray, List.getElem_cons_succ, List.getElem_cons_zero, List.setIfInBounds_toArray, List.set_cons_zero, List.set_cons_succ]
    refine wpAnyH_take (i := 2) (v := ?_) rfl (by kernel_rfl) (by kernel_rfl) (by kernel_rfl) (fun _ _ _ h => h) (Or.inl ⟨by rfl, ?_⟩) (by assumption) ?_
    rotate_left
    · intro W hSw
      have t1 := hSw
      unfold SD at t1
      go_simp
      with_reducible rfl
    try simp only [Act.put, List.getElem_toArray, List.getElem_cons_succ, List.getElem_cons_zero, List.setIfInBounds_toArray, List.set_cons_zero, List.set_cons_succ]
    refine wpAnyH_ready (rs := [3, 4, 6]) (by kernel_rfl) (by simp) ?_
    refine AllReadyH.cons (o := _) rfl (fun K' hK => ?_) ?_
    · go_simp
      refine hK.out _ _ (hHeld.kept (grown_alloc _ _)) (fun hHeld => ?_)
      clear hK K'
      try simp only [Act.put, List.getElem_toArray, List.getElem_cons_succ, List.getElem_cons_zero, List.setIfInBounds_toArray, List.set_cons_zero, List.set_cons_succ]
      refine wpAnyH_ready (rs := [4, 6]) (by kernel_rfl) (by simp) ?_
      refine AllReadyH.cons (o := _) rfl (fun K' hK => ?_) ?_
      · go_simp
        refine (CN.out _).mono ?_
        rintro e w9 ⟨rfl, hg9⟩
        go_wp2_with fail
        refine hK.out _ _ (hHeld.kept hg9) (fun hHeld => ?_)
        clear hK K'
        try simp only [Act.put, List.getElem_toArray, List.getElem_cons_succ, List.getElem_cons_zero, List.setIfInBounds_toArray, List.set_cons_zero, List.set_cons_succ]
        refine wpAnyH_take (i := 5) (v := ?_) rfl (by kernel_rfl) (by kernel_rfl) (by kernel_rfl) (fun _ _ _ h => h) (Or.inl ⟨by rfl, ?_⟩) (by assumption) ?_
        rotate_left
        · intro W hSw
          have t1 := hSw
          unfold SD at t1
          go_simp
          with_reducible rfl
        try simp only [Act.put, List.getElem_toArray, List.getElem_cons_succ, List.getElem_cons_zero, List.setIfInBounds_toArray, List.set_cons_zero, List.set_cons_succ]
        refine wpAnyH_ready (rs := [6]) (by kernel_rfl) (by simp) ?_
        refine AllReadyH.cons (o := _) rfl (fun K' hK => ?_) ?_
        · go_simp
          refine hK.out _ _ (hHeld.kept (grown_alloc _ _)) (fun hHeld => ?_)
          clear hK K'
          try simp only [Act.put, List.getElem_toArray, List.getElem_cons_succ, List.getElem_cons_zero, List.setIfInBounds_toArray, List.set_cons_zero, List.set_cons_succ]
          refine wpAnyH_ready (rs := [7]) (by kernel_rfl) (by simp) ?_
          refine AllReadyH.cons (o := _) rfl (fun K' hK => ?_) ?_
          · go_simp
            refine hK.out _ _ (S0.out.kept (WMid.gr (wmid_1 (z := (nT, nk)) HM.out hg9))) (fun hHeld => ?_)
            clear hK K'
            try simp only [Act.put, List.getElem_toArray, List.getElem_cons_succ, List.getElem_cons_zero, List.setIfInBounds_toArray, List.set_cons_zero, List.set_cons_succ]
            refine wpAnyH_done (by kernel_rfl) ?_ _
            go_wp2_with fail
            go_meet
            case rel =>
              exact wmid_1 (z := (nT, nk)) HM.out hg9
          exact AllReadyH.nil
        exact AllReadyH.nil
      refine AllReadyH.cons (o := _) rfl (fun K' hK => ?_) ?_
      · go_simp
        refine hK.out _ _ (hHeld.kept (grown_alloc _ _)) (fun hHeld => ?_)
        clear hK K'
        try simp only [Act.put, List.getElem_toArray, List.getElem_cons_succ, List.getElem_cons_zero, List.setIfInBounds_toArray, List.set_cons_zero, List.set_cons_succ]
        refine wpAnyH_ready (rs := [4]) (by kernel_rfl) (by simp) ?_
        refine AllReadyH.cons (o := _) rfl (fun K' hK => ?_) ?_
        · go_simp
          refine (CN.out _).mono ?_
          rintro e w9 ⟨rfl, hg9⟩
          go_wp2_with fail
          refine hK.out _ _ (hHeld.kept hg9) (fun hHeld => ?_)
          clear hK K'
          try simp only [Act.put, List.getElem_toArray, List.getElem_cons_succ, List.getElem_cons_zero, List.setIfInBounds_toArray, List.set_cons_zero, List.set_cons_succ]
          refine wpAnyH_take (i := 5) (v := ?_) rfl (by kernel_rfl) (by kernel_rfl) (by kernel_rfl) (fun _ _ _ h => h) (Or.inl ⟨by rfl, ?_⟩) (by assumption) ?_
          rotate_left
          · intro W hSw
            have t1 := hSw
            unfold SD at t1
            go_simp
            with_reducible rfl
          try simp only [Act.put, List.getElem_toArray, List.getElem_cons_succ, List.getElem_cons_zero, List.setIfInBounds_toArray, List.set_cons_zero, List.set_cons_succ]
          refine wpAnyH_ready (rs := [7]) (by kernel_rfl) (by simp) ?_
          refine AllReadyH.cons (o := _) rfl (fun K' hK => ?_) ?_
          · have cc := c3_x hg9
            obtain ⟨q0, q1, q2⟩ := cc.get
            have z0 := cc.fz 0
            have z1 := cc.fz 1
            have z2 := cc.fz 2
            clear cc
            go_simp
            refine hK.out _ _ (S0.out.kept (WMid.gr (wmid_2 (z := (nT, nk)) HM.out hg9 rfl))) (fun hHeld => ?_)
            clear hK K'
            try simp only [Act.put, List.getElem_toArray, List.getElem_cons_succ, List.getElem_cons_zero, List.setIfInBounds_toArray, List.set_cons_zero, List.set_cons_succ]
            refine wpAnyH_done (by kernel_rfl) ?_ _
            go_wp2_with fail
            go_meet
            case rel =>
              exact wmid_2 (z := (nT, nk)) HM.out hg9 rfl
          exact AllReadyH.nil
        exact AllReadyH.nil
      exact AllReadyH.nil
    refine AllReadyH.cons (o := _) rfl (fun K' hK => ?_) ?_
    · go_simp
      refine (CN.out _).mono ?_
      rintro e w9 ⟨rfl, hg9⟩
      go_wp2_with fail
      refine hK.out _ _ (hHeld.kept hg9) (fun hHeld => ?_)
      clear hK K'
      try simp only [Act.put, List.getElem_toArray, List.getElem_cons_succ, List.getElem_cons_zero, List.setIfInBounds_toArray, List.set_cons_zero, List.set_cons_succ]
      refine wpAnyH_ready (rs := [3, 6]) (by kernel_rfl) (by simp) ?_
      refine AllReadyH.cons (o := _) rfl (fun K' hK => ?_) ?_
      · go_simp
        refine hK.out _ _ (hHeld.kept (grown_alloc _ _)) (fun hHeld => ?_)
        clear hK K'
        try simp only [Act.put, List.getElem_toArray, List.getElem_cons_succ, List.getElem_cons_zero, List.setIfInBounds_toArray, List.set_cons_zero, List.set_cons_succ]
        refine wpAnyH_take (i := 5) (v := ?_) rfl (by kernel_rfl) (by kernel_rfl) (by kernel_rfl) (fun _ _ _ h => h) (Or.inl ⟨by rfl, ?_⟩) (by assumption) ?_
        rotate_left
        · intro W hSw
          have t1 := hSw
          unfold SD at t1
          go_simp
          with_reducible rfl
        try simp only [Act.put, List.getElem_toArray, List.getElem_cons_succ, List.getElem_cons_zero, List.setIfInBounds_toArray, List.set_cons_zero, List.set_cons_succ]
        refine wpAnyH_ready (rs := [6]) (by kernel_rfl) (by simp) ?_
        refine AllReadyH.cons (o := _) rfl (fun K' hK => ?_) ?_
        · go_simp
          refine hK.out _ _ (hHeld.kept (grown_alloc _ _)) (fun hHeld => ?_)
          clear hK K'
          try simp only [Act.put, List.getElem_toArray, List.getElem_cons_succ, List.getElem_cons_zero, List.setIfInBounds_toArray, List.set_cons_zero, List.set_cons_succ]
          refine wpAnyH_ready (rs := [7]) (by kernel_rfl) (by simp) ?_
          refine AllReadyH.cons (o := _) rfl (fun K' hK => ?_) ?_
          · go_simp
            refine hK.out _ _ (S0.out.kept (WMid.gr (wmid_3 (z := (nT, nk)) HM.out hg9))) (fun hHeld => ?_)
            clear hK K'
            try simp only [Act.put, List.getElem_toArray, List.getElem_cons_succ, List.getElem_cons_zero, List.setIfInBounds_toArray, List.set_cons_zero, List.set_cons_succ]
            refine wpAnyH_done (by kernel_rfl) ?_ _
            go_wp2_with fail
            go_meet
            case rel =>
              exact wmid_3 (z := (nT, nk)) HM.out hg9
          exact AllReadyH.nil
        exact AllReadyH.nil
      refine AllReadyH.cons (o := _) rfl (fun K' hK => ?_) ?_
      · go_simp
        refine hK.out _ _ (hHeld.kept (grown_alloc _ _)) (fun hHeld => ?_)
        clear hK K'
        try simp only [Act.put, List.getElem_toArray, List.getElem_cons_succ, List.getElem_cons_zero, List.setIfInBounds_toArray, List.set_cons_zero, List.set_cons_succ]
        refine wpAnyH_ready (rs := [3]) (by kernel_rfl) (by simp) ?_
        refine AllReadyH.cons (o := _) rfl (fun K' hK => ?_) ?_
        · go_simp
          refine hK.out _ _ (hHeld.kept (grown_alloc _ _)) (fun hHeld => ?_)
          clear hK K'
          try simp only [Act.put, List.getElem_toArray, List.getElem_cons_succ, List.getElem_cons_zero, List.setIfInBounds_toArray, List.set_cons_zero, List.set_cons_succ]
          refine wpAnyH_take (i := 5) (v := ?_) rfl (by kernel_rfl) (by kernel_rfl) (by kernel_rfl) (fun _ _ _ h => h) (Or.inl ⟨by rfl, ?_⟩) (by assumption) ?_
          rotate_left
          · intro W hSw
            have t1 := hSw
            unfold SD at t1
            go_simp
            with_reducible rfl
          try simp only [Act.put, List.getElem_toArray, List.getElem_cons_succ, List.getElem_cons_zero, List.setIfInBounds_toArray, List.set_cons_zero, List.set_cons_succ]
          refine wpAnyH_ready (rs := [7]) (by kernel_rfl) (by simp) ?_
          refine AllReadyH.cons (o := _) rfl (fun K' hK => ?_) ?_
          · go_simp
            refine hK.out _ _ (S0.out.kept (WMid.gr (wmid_4 (z := (nT, nk)) HM.out hg9))) (fun hHeld => ?_)
            clear hK K'
            try simp only [Act.put, List.getElem_toArray, List.getElem_cons_succ, List.getElem_cons_zero, List.setIfInBounds_toArray, List.set_cons_zero, List.set_cons_succ]
            refine wpAnyH_done (by kernel_rfl) ?_ _
            go_wp2_with fail
            go_meet
            case rel =>
              exact wmid_4 (z := (nT, nk)) HM.out hg9
          exact AllReadyH.nil
        exact AllReadyH.nil
      exact AllReadyH.nil
    refine AllReadyH.cons (o := _) rfl (fun K' hK => ?_) ?_
    · go_simp
      refine hK.out _ _ (hHeld.kept (grown_alloc _ _)) (fun hHeld => ?_)
      clear hK K'
      try simp only [Act.put, List.getElem_toArray, List.getElem_cons_succ, List.getElem_cons_zero, List.setIfInBounds_toArray, List.set_cons_zero, List.set_cons_succ]
      refine wpAnyH_ready (rs := [3, 4]) (by kernel_rfl) (by simp) ?_
      refine AllReadyH.cons (o := _) rfl (fun K' hK => ?_) ?_
      · go_simp
        refine hK.out _ _ (hHeld.kept (grown_alloc _ _)) (fun hHeld => ?_)
        clear hK K'
        try simp only [Act.put, List.getElem_toArray, List.getElem_cons_succ, List.getElem_cons_zero, List.setIfInBounds_toArray, List.set_cons_zero, List.set_cons_succ]
        refine wpAnyH_ready (rs := [4]) (by kernel_rfl) (by simp) ?_
        refine AllReadyH.cons (o := _) rfl (fun K' hK => ?_) ?_
        · go_simp
          refine (CN.out _).mono ?_
          rintro e w9 ⟨rfl, hg9⟩
          go_wp2_with fail
          refine hK.out _ _ (hHeld.kept hg9) (fun hHeld => ?_)
          clear hK K'
          try simp only [Act.put, List.getElem_toArray, List.getElem_cons_succ, List.getElem_cons_zero, List.setIfInBounds_toArray, List.set_cons_zero, List.set_cons_succ]
          refine wpAnyH_take (i := 5) (v := ?_) rfl (by kernel_rfl) (by kernel_rfl) (by kernel_rfl) (fun _ _ _ h => h) (Or.inl ⟨by rfl, ?_⟩) (by assumption) ?_
          rotate_left
          · intro W hSw
            have t1 := hSw
            unfold SD at t1
            go_simp
            with_reducible rfl
          try simp only [Act.put, List.getElem_toArray, List.getElem_cons_succ, List.getElem_cons_zero, List.setIfInBounds_toArray, List.set_cons_zero, List.set_cons_succ]
          refine wpAnyH_ready (rs := [7]) (by kernel_rfl) (by simp) ?_
          refine AllReadyH.cons (o := _) rfl (fun K' hK => ?_) ?_
          · have cc := c3_y hg9
            obtain ⟨q0, q1, q2⟩ := cc.get
            have z0 := cc.fz 0
            have z1 := cc.fz 1
            have z2 := cc.fz 2
            clear cc
            go_simp
            refine hK.out _ _ (S0.out.kept (WMid.gr (wmid_5 (z := (nT, nk)) HM.out hg9 rfl))) (fun hHeld => ?_)
            clear hK K'
            try simp only [Act.put, List.getElem_toArray, List.getElem_cons_succ, List.getElem_cons_zero, List.setIfInBounds_toArray, List.set_cons_zero, List.set_cons_succ]
            refine wpAnyH_done (by kernel_rfl) ?_ _
            go_wp2_with fail
            go_meet
            case rel =>
              exact wmid_5 (z := (nT, nk)) HM.out hg9 rfl
          exact AllReadyH.nil
        exact AllReadyH.nil
      refine AllReadyH.cons (o := _) rfl (fun K' hK => ?_) ?_
      · go_simp
        refine (CN.out _).mono ?_
        rintro e w9 ⟨rfl, hg9⟩
        go_wp2_with fail
        refine hK.out _ _ (hHeld.kept hg9) (fun hHeld => ?_)
        clear hK K'
        try simp only [Act.put, List.getElem_toArray, List.getElem_cons_succ, List.getElem_cons_zero, List.setIfInBounds_toArray, List.set_cons_zero, List.set_cons_succ]
        refine wpAnyH_ready (rs := [3]) (by kernel_rfl) (by simp) ?_
        refine AllReadyH.cons (o := _) rfl (fun K' hK => ?_) ?_
        · go_simp
          refine hK.out _ _ (hHeld.kept (grown_alloc _ _)) (fun hHeld => ?_)
          clear hK K'
          try simp only [Act.put, List.getElem_toArray, List.getElem_cons_succ, List.getElem_cons_zero, List.setIfInBounds_toArray, List.set_cons_zero, List.set_cons_succ]
          refine wpAnyH_take (i := 5) (v := ?_) rfl (by kernel_rfl) (by kernel_rfl) (by kernel_rfl) (fun _ _ _ h => h) (Or.inl ⟨by rfl, ?_⟩) (by assumption) ?_
          rotate_left
          · intro W hSw
            have t1 := hSw
            unfold SD at t1
            go_simp
            with_reducible rfl
          try simp only [Act.put, List.getElem_toArray, List.getElem_cons_succ, List.getElem_cons_zero, List.setIfInBounds_toArray, List.set_cons_zero, List.set_cons_succ]
          refine wpAnyH_ready (rs := [7]) (by kernel_rfl) (by simp) ?_
          refine AllReadyH.cons (o := _) rfl (fun K' hK => ?_) ?_
          · have cc := (c3_z hg9).kept (grown_alloc _ (.cells MC 57))
            obtain ⟨q0, q1, q2⟩ := cc.get
            have z0 := cc.fz 0
            have z1 := cc.fz 1
            have z2 := cc.fz 2
            clear cc
            go_simp
            refine hK.out _ _ (S0.out.kept (WMid.gr (wmid_6b (z := (nT, nk)) HM.out hg9 rfl))) (fun hHeld => ?_)
            clear hK K'
            try simp only [Act.put, List.getElem_toArray, List.getElem_cons_succ, List.getElem_cons_zero, List.setIfInBounds_toArray, List.set_cons_zero, List.set_cons_succ]
            refine wpAnyH_done (by kernel_rfl) ?_ _
            go_wp2_with fail
            go_meet
            case rel =>
              exact wmid_6b (z := (nT, nk)) HM.out hg9 rfl
          exact AllReadyH.nil
        exact AllReadyH.nil
      exact AllReadyH.nil
    exact AllReadyH.nil
  case rest =>
    obtain ⟨b, g, rfl, hc3, hsr, hgw, hlg, hlb⟩ := hcut
    obtain ⟨q0, _, _⟩ := hc3.get
    have X0 : Hid (WSt W1 b g n (nT, nk) (fun j => if j < 0 then (nT, nk) else (⟨#[]⟩, 0)) wc) := ⟨hc3, hsr.congr (fun i hi => by simp), hgw, hlg, hlb⟩
    clear hc3 hsr hgw hlg hlb
    go_wp2_with fail
    go_loopw [18] (fun v wr => ∃ k : Nat, k ≤ n ∧ v = .int .i64 k ∧ WSt W1 b g n (nT, nk) (fun j => if j < k then (nT, nk) else (⟨#[]⟩, 0)) wr) (fun v _ => n - (intOf v).toNat)
    case atStart => exact ⟨0, by omega, rfl, X0.out⟩
    case round =>
      clear X0 q0
      obtain ⟨k, hk, rfl, hst⟩ := hrel
      have X : Hid (WSt W1 b g n (nT, nk) (fun j => if j < k then (nT, nk) else (⟨#[]⟩, 0)) wr) := hst
      clear hst
      by_cases hlt : k < n
      · have hki : (k : Int) < (n : Int) := by omega
        go_wp2_with fail
        refine wp_region_held_drew (S := SWg b g n) (by kernel_rfl) (X.out.sw.kept (grown_drew (grown_refl _ _))) (fun hHeld => ?_)
        refine wpAnyH_take (i := 0) (v := ?_) rfl (by kernel_rfl) (by kernel_rfl) (by kernel_rfl) (fun _ _ _ h => h) (Or.inl ⟨by rfl, ?_⟩) (by assumption) ?_
        rotate_left
        · intro W hSw
          have t1 := hSw
          unfold SWg at t1
          go_simp
          with_reducible rfl
        try simp only [Act.put, List.getElem_toArray, List.getElem_cons_succ, List.getElem_cons_zero, List.setIfInBounds_toArray, List.set_cons_zero, List.set_cons_succ]
        refine wpAnyH_take (i := 1) (v := ?_) rfl (by kernel_rfl) (by kernel_rfl) (by kernel_rfl) (fun _ _ _ h => h) (Or.inl ⟨by rfl, ?_⟩) (by assumption) ?_
        rotate_left
        · intro W hSw
          have t1 := hSw
          unfold SWg at t1
          go_simp
          with_reducible rfl
        try simp only [Act.put, List.getElem_toArray, List.getElem_cons_succ, List.getElem_cons_zero, List.setIfInBounds_toArray, List.set_cons_zero, List.set_cons_succ]
        refine wpAnyH_take (i := 2) (v := ?_) rfl (by kernel_rfl) (by kernel_rfl) (by kernel_rfl) (fun _ _ _ h => h) (Or.inl ⟨by rfl, ?_⟩) (by assumption) ?_
        rotate_left
        · intro W hSw
          have t1 := hSw
          unfold SWg at t1
          go_simp
          with_reducible rfl
        try simp only [Act.put, List.getElem_toArray, List.getElem_cons_succ, List.getElem_cons_zero, List.setIfInBounds_toArray, List.set_cons_zero, List.set_cons_succ]
        refine wpAnyH_ready (rs := [3]) (by kernel_rfl) (by simp) ?_
        refine AllReadyH.cons (o := _) rfl (fun K' hK => ?_) ?_
        · go_simp
          refine (CN.out _).mono ?_
          rintro e w9 ⟨rfl, hg9⟩
          go_wp2_with fail
          refine hK.out _ _ (hHeld.kept hg9) (fun hHeld => ?_)
          clear hK K'
          try simp only [Act.put, List.getElem_toArray, List.getElem_cons_succ, List.getElem_cons_zero, List.setIfInBounds_toArray, List.set_cons_zero, List.set_cons_succ]
          refine wpAnyH_take (i := 4) (v := ?_) rfl (by kernel_rfl) (by kernel_rfl) (by kernel_rfl) (fun _ _ _ h => h) (Or.inl ⟨by rfl, ?_⟩) (by assumption) ?_
          rotate_left
          · intro W hSw
            have t1 := hSw
            unfold SWg at t1
            go_simp
            with_reducible rfl
          try simp only [Act.put, List.getElem_toArray, List.getElem_cons_succ, List.getElem_cons_zero, List.setIfInBounds_toArray, List.set_cons_zero, List.set_cons_succ]
          refine wpAnyH_ready (rs := [5]) (by kernel_rfl) (by simp) ?_
          refine AllReadyH.cons (o := _) rfl (fun K' hK => ?_) ?_
          · have X9 := (X.out.kept (grown_drew (grown_refl _ _))).kept hg9
            obtain ⟨q0, q1⟩ := X9.row.cell hlt
            have z0 := X9.row.fz (k * 2)
            have z1 := X9.row.fz (k * 2 + 1)
            have HX9 : Hid (WSt W1 b g n (nT, nk) _ w9) := X9
            clear X9
            go_simp
            refine hK.out _ _ ((HX9.out.put hlt (nT, nk) rfl).sw) (fun hHeld => ?_)
            clear hK K'
            try simp only [Act.put, List.getElem_toArray, List.getElem_cons_succ, List.getElem_cons_zero, List.setIfInBounds_toArray, List.set_cons_zero, List.set_cons_succ]
            refine wpAnyH_done (by kernel_rfl) ?_ _
            go_wp2_with fail
            go_roundw
            case rel => exact ⟨k + 1, by omega, by simp, (HX9.out.put hlt (nT, nk) rfl).congr (fun i hi => by split <;> split <;> first | rfl | omega | (split <;> first | rfl | omega))⟩
            case measure => simp [intOf]; omega
          exact AllReadyH.nil
        exact AllReadyH.nil
      · have hki : ¬ (k : Int) < (n : Int) := by omega
        have hkn : k = n := by omega
        subst hkn
        have X1 : Hid (WSt W1 b g k (nT, nk) (fun t => leadY nx s t 0) wr) := X.out.congr (fun i hi => by rw [if_pos hi, HNo.out])
        obtain ⟨d2, _, _⟩ := HD.out wr X.out.gr
        obtain ⟨d4, _, _⟩ := HX.out wr (grown_trans GW1.out.1 X.out.gr)
        clear X hlt S0 HM hmk HNo
        obtain ⟨n, hnk⟩ : ∃ n, n = k := ⟨_, rfl⟩
        subst hnk
        go_wp2_with fail
        go_loopw [33] (fun v wr => ∃ k : Nat, k ≤ lN ∧ v = .int .i64 k ∧ WSt W1 b g n (nT, nk) (fun t => leadY nx s t k) wr) (fun v _ => lN - (intOf v).toNat)
        case atStart => exact ⟨0, by omega, rfl, X1.out⟩
        case round =>
          clear X1 d2 d4
          obtain ⟨k, hk, rfl, hst⟩ := hrel
          have X : Hid (WSt W1 b g n (nT, nk) (fun t => leadY nx s t k) wr) := hst
          clear hst
          obtain ⟨_, dK, dM⟩ := HX.out wr (grown_trans GW1.out.1 X.out.gr)
          by_cases hlt : k < lN
          · have hki : (k : Int) < (lN : Int) := by omega
            obtain ⟨dk, htn⟩ := dK k hlt
            obtain ⟨t, ht⟩ : ∃ t, nx s k = t := ⟨_, rfl⟩
            rw [ht] at dk htn
            have hti : (t : Int) < (n : Int) := by omega
            obtain ⟨q0, q1⟩ := X.out.row.cell htn
            obtain ⟨⟨xT, xk⟩, hx⟩ : ∃ x : Sy, leadY nx s t k = x := ⟨_, rfl⟩
            obtain ⟨yT, hy⟩ : ∃ yT, oneT (97 + k) = yT := ⟨_, rfl⟩
            obtain ⟨⟨oT, ok⟩, ho⟩ : ∃ x : Sy, orY (xT, xk) (yT, 0) = x := ⟨_, rfl⟩
            have hex : (ByteArray.mk #[97, 98, 99, 100]).extract k (k + 1) = yT := by
              rw [← hy]
              obtain rfl | rfl | rfl | rfl : k = 0 ∨ k = 1 ∨ k = 2 ∨ k = 3 := by omega
              all_goals rfl
            have hk0 : (0 : Int) ≤ (k : Int) + 1 := by omega
            have hk4 : (k : Int) + 1 ≤ 4 := by omega
            have hkk : (k : Int) ≤ (k : Int) + 1 := by omega
            simp only [hx] at q0 q1
            have CO2 : Hid (∀ V, Calls Try.prog 26 #[.agg #[.string xT, .int .i64 (xk : Int)], .agg #[.string yT, .int .i64 0]] V (Says (yV (oT, ok)) V)) := fun V => by
              have h1 := leadY_size nx s t k
              rw [hx] at h1
              rw [← ho]
              exact CO.out (xT, xk) (yT, 0) V (by simp only at h1 ⊢; omega) (by rw [← hy]; show 1 ≤ 50000; omega)
            have HCg : Hid (∀ i, i < n → (if i = t then ((oT, ok) : Sy) else leadY nx s i k) = leadY nx s i (k + 1)) := fun i _ => by
              show _ = (if nx s k = i then _ else _)
              rw [ht, hy]
              by_cases e : i = t
              · subst e; rw [if_pos rfl, if_pos rfl, hx, ho]
              · rw [if_neg e, if_neg (fun e2 => e e2.symm)]
            have hkw : IntKind.i64.wrap ((k : Int) + 1) = ((k + 1 : Nat) : Int) := by rw [IntKind.wrap_i64]; omega
            clear dK dM hx ho ht hy
            go_wp2_with fail
            refine wp_region_held_drew (S := SWg b g n) (by kernel_rfl) (X.out.sw.kept (grown_drew (grown_refl _ _))) (fun hHeld => ?_)
            refine wpAnyH_take (i := 0) (v := ?_) rfl (by kernel_rfl) (by kernel_rfl) (by kernel_rfl) (fun _ _ _ h => h) (Or.inl ⟨by rfl, ?_⟩) (by assumption) ?_
            rotate_left
            · intro W hSw
              have t1 := hSw
              unfold SWg at t1
              go_simp
              with_reducible rfl
            try simp only [Act.put, List.getElem_toArray, List.getElem_cons_succ, List.getElem_cons_zero, List.setIfInBounds_toArray, List.set_cons_zero, List.set_cons_succ]
            refine wpAnyH_take (i := 1) (v := ?_) rfl (by kernel_rfl) (by kernel_rfl) (by kernel_rfl) (fun _ _ _ h => h) (Or.inl ⟨by rfl, ?_⟩) (by assumption) ?_
            rotate_left
            · intro W hSw
              have t1 := hSw
              unfold SWg at t1
              go_simp
              with_reducible rfl
            try simp only [Act.put, List.getElem_toArray, List.getElem_cons_succ, List.getElem_cons_zero, List.setIfInBounds_toArray, List.set_cons_zero, List.set_cons_succ]
            refine wpAnyH_take (i := 2) (v := ?_) rfl (by kernel_rfl) (by kernel_rfl) (by kernel_rfl) (fun _ _ _ h => h) (Or.inl ⟨by rfl, ?_⟩) (by assumption) ?_
            rotate_left
            · intro W hSw
              have t1 := hSw
              unfold SWg at t1
              go_simp
              with_reducible rfl
            try simp only [Act.put, List.getElem_toArray, List.getElem_cons_succ, List.getElem_cons_zero, List.setIfInBounds_toArray, List.set_cons_zero, List.set_cons_succ]
            refine wpAnyH_take (i := 3) (v := ?_) rfl (by kernel_rfl) (by kernel_rfl) (by kernel_rfl) (fun _ _ _ h => h) (Or.inl ⟨by rfl, ?_⟩) (by assumption) ?_
            rotate_left
            · intro W hSw
              have t1 := hSw
              unfold SWg at t1
              go_simp
              with_reducible rfl
            try simp only [Act.put, List.getElem_toArray, List.getElem_cons_succ, List.getElem_cons_zero, List.setIfInBounds_toArray, List.set_cons_zero, List.set_cons_succ]
            refine wpAnyH_take (i := 4) (v := ?_) rfl (by kernel_rfl) (by kernel_rfl) (by kernel_rfl) (fun _ _ _ h => h) (Or.inl ⟨by rfl, ?_⟩) (by assumption) ?_
            rotate_left
            · intro W hSw
              have t1 := hSw
              unfold SWg at t1
              go_simp
              with_reducible rfl
            try simp only [Act.put, List.getElem_toArray, List.getElem_cons_succ, List.getElem_cons_zero, List.setIfInBounds_toArray, List.set_cons_zero, List.set_cons_succ]
            refine wpAnyH_take (i := 5) (v := ?_) rfl (by kernel_rfl) (by kernel_rfl) (by kernel_rfl) (fun _ _ _ h => h) (Or.inl ⟨by rfl, ?_⟩) (by assumption) ?_
            rotate_left
            · intro W hSw
              have t1 := hSw
              unfold SWg at t1
              go_simp
              with_reducible rfl
            try simp only [Act.put, List.getElem_toArray, List.getElem_cons_succ, List.getElem_cons_zero, List.setIfInBounds_toArray, List.set_cons_zero, List.set_cons_succ]
            refine wpAnyH_take (i := 6) (v := ?_) rfl (by kernel_rfl) (by kernel_rfl) (by kernel_rfl) (fun _ _ _ h => h) (Or.inl ⟨by rfl, ?_⟩) (by assumption) ?_
            rotate_left
            · intro W hSw
              have t1 := hSw
              unfold SWg at t1
              go_simp
              with_reducible rfl
            try simp only [Act.put, List.getElem_toArray, List.getElem_cons_succ, List.getElem_cons_zero, List.setIfInBounds_toArray, List.set_cons_zero, List.set_cons_succ]
            refine wpAnyH_take (i := 8) (v := ?_) rfl (by kernel_rfl) (by kernel_rfl) (by kernel_rfl) (fun _ _ _ h => h) (Or.inl ⟨by rfl, ?_⟩) (by assumption) ?_
            rotate_left
            · intro W hSw
              have t1 := hSw
              unfold SWg at t1
              go_simp
              with_reducible rfl
            try simp only [Act.put, List.getElem_toArray, List.getElem_cons_succ, List.getElem_cons_zero, List.setIfInBounds_toArray, List.set_cons_zero, List.set_cons_succ]
            refine wpAnyH_take (i := 9) (v := ?_) rfl (by kernel_rfl) (by kernel_rfl) (by kernel_rfl) (fun _ _ _ h => h) (Or.inl ⟨by rfl, ?_⟩) (by assumption) ?_
            rotate_left
            · intro W hSw
              have t1 := hSw
              unfold SWg at t1
              go_simp
              with_reducible rfl
            try simp only [Act.put, List.getElem_toArray, List.getElem_cons_succ, List.getElem_cons_zero, List.setIfInBounds_toArray, List.set_cons_zero, List.set_cons_succ]
            refine wpAnyH_take (i := 10) (v := ?_) rfl (by kernel_rfl) (by kernel_rfl) (by kernel_rfl) (fun _ _ _ h => h) (Or.inl ⟨by rfl, ?_⟩) (by assumption) ?_
            rotate_left
            · intro W hSw
              have t1 := hSw
              unfold SWg at t1
              go_simp
              with_reducible rfl
            try simp only [Act.put, List.getElem_toArray, List.getElem_cons_succ, List.getElem_cons_zero, List.setIfInBounds_toArray, List.set_cons_zero, List.set_cons_succ]
            refine wpAnyH_take (i := 11) (v := ?_) rfl (by kernel_rfl) (by kernel_rfl) (by kernel_rfl) (fun _ _ _ h => h) (Or.inl ⟨by rfl, ?_⟩) (by assumption) ?_
            rotate_left
            · intro W hSw
              have t1 := hSw
              unfold SWg at t1
              go_simp
              with_reducible rfl
            try simp only [Act.put, List.getElem_toArray, List.getElem_cons_succ, List.getElem_cons_zero, List.setIfInBounds_toArray, List.set_cons_zero, List.set_cons_succ]
            refine wpAnyH_take (i := 12) (v := ?_) rfl (by kernel_rfl) (by kernel_rfl) (by kernel_rfl) (fun _ _ _ h => h) (Or.inl ⟨by rfl, ?_⟩) (by assumption) ?_
            rotate_left
            · intro W hSw
              have t1 := hSw
              unfold SWg at t1
              go_simp
              with_reducible rfl
            try simp only [Act.put, List.getElem_toArray, List.getElem_cons_succ, List.getElem_cons_zero, List.setIfInBounds_toArray, List.set_cons_zero, List.set_cons_succ]
            refine wpAnyH_ready (rs := [7]) (by kernel_rfl) (by simp) ?_
            refine AllReadyH.cons (o := _) rfl (fun K' hK => ?_) ?_
            · go_simp
              refine hK.out _ _ (by assumption) (fun hHeld => ?_)
              clear hK K'
              try simp only [Act.put, List.getElem_toArray, List.getElem_cons_succ, List.getElem_cons_zero, List.setIfInBounds_toArray, List.set_cons_zero, List.set_cons_succ]
              refine wpAnyH_ready (rs := [13]) (by kernel_rfl) (by simp) ?_
              refine AllReadyH.cons (o := _) rfl (fun K' hK => ?_) ?_
              · go_simp
                refine (CO2.out _).mono ?_
                rintro e w9 ⟨rfl, hg9⟩
                go_wp2_with fail
                refine hK.out _ _ (hHeld.kept hg9) (fun hHeld => ?_)
                clear hK K'
                try simp only [Act.put, List.getElem_toArray, List.getElem_cons_succ, List.getElem_cons_zero, List.setIfInBounds_toArray, List.set_cons_zero, List.set_cons_succ]
                refine wpAnyH_take (i := 14) (v := ?_) rfl (by kernel_rfl) (by kernel_rfl) (by kernel_rfl) (fun _ _ _ h => h) (Or.inl ⟨by rfl, ?_⟩) (by assumption) ?_
                rotate_left
                · intro W hSw
                  have t1 := hSw
                  unfold SWg at t1
                  go_simp
                  with_reducible rfl
                try simp only [Act.put, List.getElem_toArray, List.getElem_cons_succ, List.getElem_cons_zero, List.setIfInBounds_toArray, List.set_cons_zero, List.set_cons_succ]
                refine wpAnyH_ready (rs := [15]) (by kernel_rfl) (by simp) ?_
                refine AllReadyH.cons (o := _) rfl (fun K' hK => ?_) ?_
                · have X9 := (X.out.kept (grown_drew (grown_refl _ _))).kept hg9
                  obtain ⟨p0, p1⟩ := X9.row.cell htn
                  have z0 := X9.row.fz (t * 2)
                  have z1 := X9.row.fz (t * 2 + 1)
                  have HX9 : Hid (WSt W1 b g n (nT, nk) _ w9) := X9
                  clear X9
                  go_simp
                  refine hK.out _ _ ((HX9.out.put htn (oT, ok) rfl).sw) (fun hHeld => ?_)
                  clear hK K'
                  try simp only [Act.put, List.getElem_toArray, List.getElem_cons_succ, List.getElem_cons_zero, List.setIfInBounds_toArray, List.set_cons_zero, List.set_cons_succ]
                  refine wpAnyH_done (by kernel_rfl) ?_ _
                  go_wp2_with fail
                  go_roundw
                  case rel => exact ⟨k + 1, by omega, by simp, (HX9.out.put htn (oT, ok) rfl).congr (HCg.out)⟩
                  case measure => simp [intOf]; omega
                exact AllReadyH.nil
              exact AllReadyH.nil
            exact AllReadyH.nil
          · have hki : ¬ (k : Int) < (lN : Int) := by omega
            have hkl : k = lN := by omega
            subst hkl
            clear dK
            obtain ⟨_, d3, _⟩ := HD.out wr X.out.gr
            by_cases hmv : mv = 1
            · rw [if_pos hmv] at HEn
              subst hmv
              go_wp2_with fail
              refine (CE.out _).mono ?_
              rintro e w9 ⟨rfl, hg9⟩
              have X9 := X.out.kept hg9
              obtain ⟨p0, p1, p2⟩ := X9.box.get
              have z0 := X9.box.fz 1
              have z1 := X9.box.fz 2
              obtain ⟨_, _, c5⟩ := HD.out w9 X9.gr
              obtain ⟨y3, y4, y5⟩ := c5.get
              have z3 := c5.fz 0
              have z4 := c5.fz 1
              have z5 := c5.fz 2
              have hne1 : w.heap.size + 1 ≠ b := by have := X9.lb; have := GW1.out.2; omega
              have hne2 : b ≠ w.heap.size + 1 := fun e => hne1 e.symm
              have HX9 : Hid (WSt W1 b g n (nT, nk) _ w9) := X9
              have C5 : Hid (C3 w9 (w.heap.size + 1) _ _) := c5
              have h5 := HX9.out.putE (eT, ek) rfl
              have c6 := c5.far (W' := (w9.setCell ⟨b, 1, none⟩ (.string eT)).setCell ⟨b, 2, none⟩ (.int .i64 (ek : Int))) (grown_trans (grown_set _ _ _) (grown_set _ _ _)) hne1
              obtain ⟨W5, hW5, f0, f1, f2, hp⟩ := ways_end h5 c6 GW1.out.1 GW1.out.2
              have HP : Hid _ := hp
              clear c5 c6 h5 X9 hp
              simp only at hW5 f0 f1 f2
              have HW5 : Hid (W5 = _) := hW5
              clear hW5
              go_wp2_with fail
              rw [← HW5.out, HEn.out]
              exact bodyPost_ret (v := .agg #[.slice (some ⟨g, 0, none⟩) n n, .string eT, .int .i64 (ek : Int)]) (by simp [results, Try.results23, go_sem, f0, f1, f2]) rfl HP.out
            · rw [if_neg hmv] at HEn
              obtain ⟨p0, p1, p2⟩ := X.out.box.get
              obtain ⟨_, _, c5⟩ := HD.out wr X.out.gr
              obtain ⟨y3, y4, y5⟩ := c5.get
              have z3 := c5.fz 0
              have z4 := c5.fz 1
              have z5 := c5.fz 2
              obtain ⟨W5, hW5, f0, f1, f2, hp⟩ := ways_end X.out c5 GW1.out.1 GW1.out.2
              have HP : Hid _ := hp
              clear c5 hp
              simp only at hW5 f0 f1 f2
              have HW5 : Hid (W5 = _) := hW5
              clear hW5
              go_wp2_with fail
              rw [← HW5.out, HEn.out]
              exact bodyPost_ret (v := .agg #[.slice (some ⟨g, 0, none⟩) n n, .string nT, .int .i64 (nk : Int)]) (by simp [results, Try.results23, go_sem, f0, f1, f2]) rfl HP.out

end Go.Proofs.Yticmfgclkepgoaa

namespace Go.Proofs.Yticmfgclkepgoaa
open Go.RowKit
set_option linter.unusedVariables false
set_option linter.unusedSimpArgs false

/-- The ways of the first m of n states: where each one's sayings lie is told by gs. -/
structure AllW (w0 : World) (ga n m : Nat) (gs : Nat → Nat) (ld : Nat → Nat → Sy) (en : Nat → Sy) (W : World) : Prop where
  row : ∃ (ad : Nat → Option Addr) (nl cl : Nat → Nat), ARow W ga n ad nl cl en ∧ ∀ i, i < m → ad i = some ⟨gs i, 0, none⟩ ∧ nl i = n ∧ cl i = n
  lies : ∀ i, i < m → SRow W (gs i) n (ld i)
  apart : ∀ i j, i < m → j < m → i ≠ j → gs i ≠ gs j
  gr : w0.grownBy W none
  lga : w0.heap.size ≤ ga
  lgs : ∀ i, i < m → w0.heap.size ≤ gs i
section
variable {w0 W W' : World} {ga n m : Nat} {gs : Nat → Nat} {ld ld' : Nat → Nat → Sy} {en en' : Nat → Sy}
theorem AllW.kept (h : AllW w0 ga n m gs ld en W) (hg : W.grownBy W' none) : AllW w0 ga n m gs ld en W' := by
  obtain ⟨ad, nl, cl, hr, hx⟩ := h.row
  exact ⟨⟨ad, nl, cl, hr.kept hg, hx⟩, fun i hi => (h.lies i hi).kept hg, h.apart, grown_trans h.gr hg, h.lga, h.lgs⟩
/-- What else is written, in a block of no way, leaves them. -/
theorem AllW.far {b : Nat} (h : AllW w0 ga n m gs ld en W) (hg : W.grownBy W' (some b)) (h1 : ga ≠ b) (h2 : ∀ i, i < m → gs i ≠ b) (hb : w0.heap.size ≤ b) : AllW w0 ga n m gs ld en W' := by
  obtain ⟨ad, nl, cl, hr, hx⟩ := h.row
  exact ⟨⟨ad, nl, cl, hr.far hg h1, hx⟩, fun i hi => (h.lies i hi).far hg (h2 i hi), h.apart, grown_new h.gr hg hb, h.lga, h.lgs⟩
theorem AllW.congr (h : AllW w0 ga n m gs ld en W) (hm : m ≤ n) (e1 : ∀ i, i < m → ∀ j, j < n → ld i j = ld' i j) : AllW w0 ga n m gs ld' en W :=
  ⟨h.row, fun i hi => (h.lies i hi).congr (e1 i hi), h.apart, h.gr, h.lga, h.lgs⟩
theorem AllW.congrE (h : AllW w0 ga n m gs ld en W) (e : ∀ i, i < n → en i = en' i) : AllW w0 ga n m gs ld en' W := by
  obtain ⟨ad, nl, cl, ⟨cur, h1, h2⟩, hx⟩ := h.row
  exact ⟨⟨ad, nl, cl, ⟨cur, h1, fun i hi => by rw [← e i hi]; exact h2 i hi⟩, hx⟩, h.lies, h.apart, h.gr, h.lga, h.lgs⟩
theorem AllW.start (W : World) (h : ARow W ga n (fun _ => none) (fun _ => 0) (fun _ => 0) en) (hg : w0.grownBy W none) (hl : w0.heap.size ≤ ga) : AllW w0 ga n 0 gs ld en W :=
  ⟨⟨_, _, _, h, fun i hi => absurd hi (Nat.not_lt_zero _)⟩, fun i hi => absurd hi (Nat.not_lt_zero _), fun i j hi => absurd hi (Nat.not_lt_zero _), hg, hl, fun i hi => absurd hi (Nat.not_lt_zero _)⟩
/-- What one reads of a state. -/
theorem AllW.at (h : AllW w0 ga n m gs ld en W) (hm : m ≤ n) {i : Nat} (hi : i < m) : W.cell? ⟨ga, i * 3, none⟩ = some (.slice (some ⟨gs i, 0, none⟩) n n) ∧ W.cell? ⟨ga, i * 3 + 1, none⟩ = some (.string (en i).1) ∧ W.cell? ⟨ga, i * 3 + 2, none⟩ = some (.int .i64 ((en i).2 : Int)) := by
  obtain ⟨ad, nl, cl, hr, hx⟩ := h.row
  obtain ⟨e1, e2, e3⟩ := hx i hi
  have := hr.cell (i := i) (by omega)
  rw [e1, e2, e3] at this
  exact this
theorem AllW.fz (h : AllW w0 ga n m gs ld en W) (i : Nat) : W.frozen? ⟨ga, i, none⟩ = false := by
  obtain ⟨ad, nl, cl, hr, hx⟩ := h.row
  exact hr.fz i
theorem AllW.ne (h : AllW w0 ga n m gs ld en W) {i : Nat} (hi : i < m) : ga ≠ gs i := by
  obtain ⟨ad, nl, cl, hr, hx⟩ := h.row
  exact hr.ne (h.lies i hi)
/-- The next state's ways are laid down. -/
theorem AllW.lay (h : AllW w0 ga n m gs ld en W) (hm : m < n) {g : Nat} {f : Nat → Sy} (y : Sy) (hs : SRow W g n f) (hn : ∀ i, i < m → gs i ≠ g) (hl : w0.heap.size ≤ g) (e : W' = ((W.setCell ⟨ga, m * 3, none⟩ (.slice (some ⟨g, 0, none⟩) n n)).setCell ⟨ga, m * 3 + 1, none⟩ (.string y.1)).setCell ⟨ga, m * 3 + 2, none⟩ (.int .i64 (y.2 : Int))) :
    AllW w0 ga n (m + 1) (fun j => if j = m then g else gs j) (fun j => if j = m then f else ld j) (fun j => if j = m then y else en j) W' := by
  obtain ⟨ad, nl, cl, hr, hx⟩ := h.row
  have hne := hr.ne hs
  obtain ⟨hr', hg⟩ := hr.lay hm (some ⟨g, 0, none⟩) n n y e
  refine ⟨⟨_, _, _, hr', fun i hi => ?_⟩, fun i hi => ?_, fun i j hi hj hij => ?_, grown_new h.gr hg h.lga, h.lga, fun i hi => ?_⟩
  · by_cases e : i = m
    · simp [e]
    · simp only [if_neg e]
      exact hx i (by omega)
  · by_cases e : i = m
    · simp only [if_pos e]
      exact hs.far hg (fun e => hne e.symm)
    · simp only [if_neg e]
      exact (h.lies i (by omega)).far hg (fun e2 => h.ne (i := i) (by omega) e2.symm)
  · by_cases e : i = m
    · have e2 : j ≠ m := fun e2 => hij (by omega)
      simp only [if_pos e, if_neg e2]
      exact fun e3 => hn j (by omega) e3.symm
    · by_cases e2 : j = m
      · simp only [if_neg e, if_pos e2]
        exact hn i (by omega)
      · simp only [if_neg e, if_neg e2]
        exact h.apart i j (by omega) (by omega) hij
  · by_cases e : i = m
    · simp only [if_pos e]; exact hl
    · simp only [if_neg e]; exact h.lgs i (by omega)
/-- What leads from t to u is written anew. -/
theorem AllW.putL (h : AllW w0 ga n m gs ld en W) {t u : Nat} (ht : t < m) (hu : u < n) (y : Sy) (e : W' = (W.setCell ⟨gs t, u * 2, none⟩ (.string y.1)).setCell ⟨gs t, u * 2 + 1, none⟩ (.int .i64 (y.2 : Int))) :
    AllW w0 ga n m gs (fun i j => if i = t ∧ j = u then y else ld i j) en W' := by
  obtain ⟨ad, nl, cl, hr, hx⟩ := h.row
  obtain ⟨hs, hg⟩ := (h.lies t ht).put hu y e
  refine ⟨⟨ad, nl, cl, hr.far hg (h.ne ht), hx⟩, fun i hi => ?_, h.apart, grown_new h.gr hg (h.lgs t ht), h.lga, h.lgs⟩
  by_cases e : i = t
  · subst e
    exact hs.congr (fun j hj => by simp)
  · exact ((h.lies i hi).far hg (h.apart i t hi ht e)).congr (fun j hj => by simp [e])
/-- What is said of t's end is written anew. -/
theorem AllW.putE (h : AllW w0 ga n m gs ld en W) (hm : m ≤ n) {t : Nat} (ht : t < m) (y : Sy) (e : W' = (W.setCell ⟨ga, t * 3 + 1, none⟩ (.string y.1)).setCell ⟨ga, t * 3 + 2, none⟩ (.int .i64 (y.2 : Int))) :
    AllW w0 ga n m gs ld (fun i => if i = t then y else en i) W' := by
  obtain ⟨ad, nl, cl, hr, hx⟩ := h.row
  obtain ⟨hr', hg⟩ := hr.put (i := t) (by omega) y e
  exact ⟨⟨ad, nl, cl, hr', hx⟩, fun i hi => (h.lies i hi).far hg (fun e2 => h.ne hi e2.symm), h.apart, grown_new h.gr hg h.lga, h.lga, h.lgs⟩
end
end Go.Proofs.Yticmfgclkepgoaa
