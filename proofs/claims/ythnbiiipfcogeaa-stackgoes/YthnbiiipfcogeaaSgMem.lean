/- Edges with their costs in a map; rows of six costs, in a box and as a value. -/
import Derived.Test.YthnbiiipfcogeaaSgMath
import Derived.Maps.Own
import Derived.Maps.OwnOps
import Derived.Maps.OwnSet
import Derived.Maps.Views
import Derived.WideKeyPair
import Derived.DeepKeys4
namespace Go.Proofs.Ythnbiiipfcogeaa
open Go.RowKit Go.Maps
set_option linter.unusedVariables false
set_option linter.unusedSimpArgs false

abbrev vE (f s t : Nat) : Value := .agg #[.int .i64 (f : Int), .int .i64 (s : Int), .int .i64 (t : Int)]
def kE (f s t : Nat) : Lit := .string (keyBytes [.int .i64 (f : Int), .int .i64 (s : Int), .int .i64 (t : Int)])
theorem wfG {y : Nat} (h : y < 4611686018427387904) : (Lit.int .i64 (y : Int)).wf = true := WalkArith.wf_i64 (by omega)
theorem zeroG (w : World) : (zeroValue 3).run Try.prog w = .ok (.int .i64 0) w := by kernel_rfl
theorem Try.rowE : (50 : TypeId) < Try.prog.types.size := of_decide_eq_true (by kernel_rfl)
theorem Try.wideE : (match Try.prog.underlying 50 with | some (.array _ _) | some (.struct _) => true | _ => false) = true := by rw [Try.underlying50]
set_option maxRecDepth 100000 in
theorem Try.keyedE : Keyed Try.prog 50 := Keyed.of_law (deep_law_laid Try.laidOut (m := 2) (by omega) Try.rowE (by kernel_rfl) Try.wideE)
theorem Try.cellsE : Try.prog.cellsOf 50 = 3 := by kernel_rfl
theorem Try.cells3E : Try.prog.cellsOf 3 = 1 := by kernel_rfl
theorem Try.ktE : Try.prog.keyType 50 = true := by kernel_rfl
theorem predE {n t : Nat} (h : t < n) : ∃ m, n = m + 1 := ⟨n - 1, by omega⟩
set_option maxRecDepth 100000 in
theorem Try.sizeE : ∃ m, Try.prog.types.size = m + 1 := predE Try.rowE
set_option maxRecDepth 100000 in
theorem kE_key {f s t : Nat} (hf : f < 4611686018427387904) (hs : s < 4611686018427387904) (ht : t < 4611686018427387904) : keyOf Try.prog 50 (vE f s t) = some (kE f s t) := by
  obtain ⟨m, hm⟩ := Try.sizeE
  unfold keyOf
  simp only [Try.underlying50]
  rw [if_pos (by simp [Try.ktE, Value.formed, Try.underlying50, Try.cellsE]), hm]
  unfold Program.keyLits
  simp only [Try.underlying50, Value.cells]
  rw [if_pos (by rw [Try.cellsE]; exact ⟨rfl, by decide +kernel⟩)]
  simp [Try.cells3E, Program.keyLits, Try.underlying3, wfG hf, wfG hs, wfG ht, kE]
theorem kE_inj {f s t f' s' t' : Nat} (h : f < 4611686018427387904 ∧ s < 4611686018427387904 ∧ t < 4611686018427387904) (h' : f' < 4611686018427387904 ∧ s' < 4611686018427387904 ∧ t' < 4611686018427387904) (e : kE f s t = kE f' s' t') : f = f' ∧ s = s' ∧ t = t' := by
  have h1 := Try.keyedE.inj (kE_key h.1 h.2.1 h.2.2) (by rw [e]; exact kE_key h'.1 h'.2.1 h'.2.2)
  simp only [Value.agg.injEq, Array.mk.injEq, List.cons.injEq, Value.int.injEq, true_and, and_true] at h1
  omega
theorem kE_lit (f s t : Nat) : WideAt.IsKeyLit (kE f s t) := by simp [WideAt.IsKeyLit, kE]

/-- The map in block b holds the edges with their costs. -/
structure EdgesAt (w : World) (b : Nat) (E : Edg) : Prop where
  top : Top E
  map : ∃ (D : DataW Unit) (n : Nat), w.ownsMap Try.prog 50 (plainElem Try.prog 3) b n D ∧ n + muE E ≤ 216216 ∧ ∀ f s t, f < 6 → s < 3 → t < 6 → (Maps.has D (kE f s t) = true ↔ E f s t < 2002) ∧ (E f s t < 2002 → ∀ z, D.atKey (kE f s t) z = .lit (.int .i64 (E f s t : Int)))
theorem EdgesAt.kept {w w' : World} {b : Nat} {E : Edg} {row : Option Nat} (h : EdgesAt w b E) (hg : w.grownBy w' row) (hne : row ≠ some b) : EdgesAt w' b E := by
  obtain ⟨D, n, h1, h2⟩ := h.map
  exact ⟨h.top, D, n, h1.kept hg (Ne.symm hne), h2⟩
theorem EdgesAt.block {w : World} {b : Nat} {E : Edg} (h : EdgesAt w b E) : b < w.heap.size ∧ ∃ o, w.heap[b]? = some o ∧ ∀ c t f, o ≠ .cells c t f := by
  obtain ⟨D, n, ⟨es, clock, hb, _⟩, _⟩ := h.map
  exact ⟨(Array.getElem?_eq_some_iff.1 hb).1, _, hb, fun _ _ _ e => by cases e⟩
theorem EdgesAt.ne {w : World} {b g : Nat} {E : Edg} {c : Array Value} {t : TypeId} {fl : Nat × Nat} (h : EdgesAt w b E) (h2 : w.heap[g]? = some (.cells c t fl)) : b ≠ g := by
  rintro rfl
  obtain ⟨_, o, ho, hn⟩ := h.block
  rw [h2] at ho
  cases ho
  exact hn _ _ _ rfl
theorem EdgesAt.look {w : World} {b : Nat} {E : Edg} (h : EdgesAt w b E) {f s t : Nat} (hf : f < 6) (hs : s < 3) (ht : t < 6) :
    (E f s t < 2002 → (Instr.lookup 36 (.map (some b)) (vE f s t) true).run Try.prog w = .ok (.tuple #[.int .i64 (E f s t : Int), .bool true]) w) ∧
    (¬ E f s t < 2002 → ∃ c, (Instr.lookup 36 (.map (some b)) (vE f s t) true).run Try.prog w = .ok (.tuple #[.int .i64 c, .bool false]) w) := by
  obtain ⟨D, n, h1, _, h3⟩ := h.map
  obtain ⟨v, ps, hrun, hv⟩ := h1.look_ok Try.keyedE Try.underlying36 (zeroG w) (plainElem_int Try.underlying3 (by decide)) (kE_key (f := f) (s := s) (t := t) (by omega) (by omega) (by omega))
  obtain ⟨c, rfl, hc, hwc⟩ := plainElem_int_inv Try.underlying3 hv
  simp only [Prod.mk.injEq] at hc
  obtain ⟨k1, k2⟩ := h3 f s t hf hs ht
  refine ⟨fun hm => ?_, fun hm => ⟨c, ?_⟩⟩
  · rw [k2 hm] at hc
    have e3 : c = (E f s t : Nat) := by have := hc.1; simp at this; exact this.symm
    rw [hrun, k1.2 hm, e3]
  · have : Maps.has D (kE f s t) = false := by
      cases hb : Maps.has D (kE f s t) with
      | false => rfl
      | true => exact absurd (k1.1 hb) hm
    rw [hrun, this]
theorem EdgesAt.get {w : World} {b : Nat} {E : Edg} (h : EdgesAt w b E) {f s t : Nat} (hf : f < 6) (hs : s < 3) (ht : t < 6) (hE : E f s t < 2002) : (Instr.lookup 36 (.map (some b)) (vE f s t) false).run Try.prog w = .ok (.int .i64 (E f s t : Int)) w := by
  obtain ⟨D, n, h1, _, h3⟩ := h.map
  obtain ⟨c, hrun, hc, hwc⟩ := h1.lookup_int Try.keyedE Try.underlying36 Try.underlying3 (zeroG w) (kE_key (f := f) (s := s) (t := t) (by omega) (by omega) (by omega))
  obtain ⟨k1, k2⟩ := h3 f s t hf hs ht
  rw [k2 hE] at hc
  have e3 : c = (E f s t : Nat) := by simp at hc; exact hc.symm
  rw [hrun, e3]
theorem EdgesAt.put {w : World} {b : Nat} {E : Edg} (h : EdgesAt w b E) {f s t c : Nat} (hf : f < 6) (hs : s < 3) (ht : t < 6) (hc : c < E f s t) :
    ∃ w', (Instr.mapUpdate 36 (.map (some b)) (vE f s t) (.int .i64 (c : Int))).run Try.prog w = .ok () w' ∧ EdgesAt w' b (updE E f s t c) ∧ w.grownBy w' (some b) := by
  obtain ⟨D, n, h1, h2, h3⟩ := h.map
  have hE := h.top f s t
  obtain ⟨w', hrun, h4, h5⟩ := h1.update Try.keyedE Try.underlying36 (by unfold maxLen; omega) (kE_key (f := f) (s := s) (t := t) (by omega) (by omega) (by omega)) (plainElem_int Try.underlying3 (wfG (y := c) (by omega)))
  refine ⟨w', hrun, ⟨updE_top h.top (by omega), _, n + 1, h4, by have := muE_lt (E := E) hf hs ht hc; omega, fun f' s' t' hf' hs' ht' => ?_⟩, h5⟩
  by_cases e : f' = f ∧ s' = s ∧ t' = t
  · obtain ⟨rfl, rfl, rfl⟩ := e
    rw [updE_same, has_put_same h1.isMap (kE_lit f' s' t')]
    exact ⟨⟨fun _ => by omega, fun _ => rfl⟩, fun _ z => by rw [atKey_put_same h1.isMap (kE_lit f' s' t')]⟩
  · have hne : kE f' s' t' ≠ kE f s t := fun e2 => e (kE_inj ⟨by omega, by omega, by omega⟩ ⟨by omega, by omega, by omega⟩ e2)
    have e2 : updE E f s t c f' s' t' = E f' s' t' := by unfold updE; rw [if_neg e]
    rw [e2, has_put_other hne]
    obtain ⟨k1, k2⟩ := h3 f' s' t' hf' hs' ht'
    exact ⟨k1, fun hl z => by rw [atKey_put_other hne]; exact k2 hl z⟩
theorem edges_made (w : World) : EdgesAt (w.alloc (.map #[] 0)) w.heap.size (fun _ _ _ => 2002) :=
  ⟨fun _ _ _ => Nat.le_refl _, .map [], 0, World.ownsMap_made w _ _ _, by have := muE_le (E := fun _ _ _ => 2002) (fun _ _ _ => Nat.le_refl _); omega, fun f s t _ _ _ => ⟨by simp [Maps.has_eq], fun h => by omega⟩⟩
open Classical in
/-- What a look-up tells of an edge's cost. -/
noncomputable def costW (w : World) (b f s t : Nat) : Nat := if h : ∃ c : Nat, (Instr.lookup 36 (.map (some b)) (vE f s t) true).run Try.prog w = .ok (.tuple #[.int .i64 (c : Int), .bool true]) w then Classical.choose h else 2002
theorem EdgesAt.costW {w : World} {b : Nat} {E : Edg} (h : EdgesAt w b E) {f s t : Nat} (hf : f < 6) (hs : s < 3) (ht : t < 6) : costW w b f s t = E f s t := by
  obtain ⟨h1, h2⟩ := h.look hf hs ht
  unfold Proofs.Ythnbiiipfcogeaa.costW
  by_cases hE : E f s t < 2002
  · have h3 : ∃ c : Nat, (Instr.lookup 36 (.map (some b)) (vE f s t) true).run Try.prog w = .ok (.tuple #[.int .i64 (c : Int), .bool true]) w := ⟨_, h1 hE⟩
    rw [dif_pos h3]
    have h4 := (h1 hE).symm.trans (Classical.choose_spec h3)
    simp only [Result.ok.injEq, Value.tuple.injEq, Array.mk.injEq, List.cons.injEq, Value.int.injEq, true_and, and_true] at h4
    omega
  · obtain ⟨c, hc⟩ := h2 hE
    have := h.top f s t
    rw [dif_neg]
    · omega
    · rintro ⟨c', h3⟩
      rw [hc] at h3
      simp at h3
theorem EdgesAt.mu {w : World} {b : Nat} {E : Edg} (h : EdgesAt w b E) : muE (Proofs.Ythnbiiipfcogeaa.costW w b) = muE E := muE_congr fun f s t hf hs ht => h.costW hf hs ht

/-- Six costs as a value. -/
abbrev rV (g : Nat → Nat) : Value := .agg #[.int .i64 (g 0 : Int), .int .i64 (g 1 : Int), .int .i64 (g 2 : Int), .int .i64 (g 3 : Int), .int .i64 (g 4 : Int), .int .i64 (g 5 : Int)]
abbrev rArr (g : Nat → Nat) : Array Value := #[.int .i64 (g 0 : Int), .int .i64 (g 1 : Int), .int .i64 (g 2 : Int), .int .i64 (g 3 : Int), .int .i64 (g 4 : Int), .int .i64 (g 5 : Int)]
/-- Six costs in a box. -/
def Box6 (w : World) (b : Nat) (g : Nat → Nat) : Prop := w.heap[b]? = some (.cells (rArr g) 39 (0, 0))
section
variable {w w' : World} {b : Nat} {g : Nat → Nat}
theorem Box6.lt (h : Box6 w b g) : b < w.heap.size := (Array.getElem?_eq_some_iff.1 h).1
theorem Box6.kept (h : Box6 w b g) (hg : w.grownBy w' none) : Box6 w' b g := (hg.block b h.lt (by simp)).trans h
theorem Box6.fz (h : Box6 w b g) (i : Nat) : w.frozen? ⟨b, i, none⟩ = false := frozen_of_row _ _ i _ _ h
theorem Box6.get (h : Box6 w b g) : w.cell? ⟨b, 0, none⟩ = some (.int .i64 (g 0 : Int)) ∧ w.cell? ⟨b, 1, none⟩ = some (.int .i64 (g 1 : Int)) ∧ w.cell? ⟨b, 2, none⟩ = some (.int .i64 (g 2 : Int)) ∧ w.cell? ⟨b, 3, none⟩ = some (.int .i64 (g 3 : Int)) ∧ w.cell? ⟨b, 4, none⟩ = some (.int .i64 (g 4 : Int)) ∧ w.cell? ⟨b, 5, none⟩ = some (.int .i64 (g 5 : Int)) :=
  ⟨by rw [cell_of_row _ _ 0 _ _ (0, 0) h]; rfl, by rw [cell_of_row _ _ 1 _ _ (0, 0) h]; rfl, by rw [cell_of_row _ _ 2 _ _ (0, 0) h]; rfl, by rw [cell_of_row _ _ 3 _ _ (0, 0) h]; rfl, by rw [cell_of_row _ _ 4 _ _ (0, 0) h]; rfl, by rw [cell_of_row _ _ 5 _ _ (0, 0) h]; rfl⟩
theorem six {i : Nat} (h : i < 6) : i = 0 ∨ i = 1 ∨ i = 2 ∨ i = 3 ∨ i = 4 ∨ i = 5 := by omega
theorem rArr_get (g : Nat → Nat) {i : Nat} (h : i < 6) : (rArr g)[i]? = some (.int .i64 (g i : Int)) := by
  rcases six h with rfl | rfl | rfl | rfl | rfl | rfl <;> rfl
theorem Box6.cell (h : Box6 w b g) {i : Nat} (hi : i < 6) : w.cell? ⟨b, i, none⟩ = some (.int .i64 (g i : Int)) := by rw [cell_of_row _ _ i _ _ (0, 0) h]; exact rArr_get g hi
theorem rArr_congr {g g' : Nat → Nat} (h : ∀ i, i < 6 → g i = g' i) : rArr g = rArr g' := by simp only [rArr, h 0 (by omega), h 1 (by omega), h 2 (by omega), h 3 (by omega), h 4 (by omega), h 5 (by omega)]
theorem rV_congr {g g' : Nat → Nat} (h : ∀ i, i < 6 → g i = g' i) : rV g = rV g' := by simp only [rV, h 0 (by omega), h 1 (by omega), h 2 (by omega), h 3 (by omega), h 4 (by omega), h 5 (by omega)]
theorem Box6.congr {g' : Nat → Nat} (h : Box6 w b g) (e : ∀ i, i < 6 → g i = g' i) : Box6 w b g' := by unfold Box6 at h ⊢; rw [← rArr_congr e]; exact h
theorem Box6.set (h : Box6 w b g) {i : Nat} (hi : i < 6) (c : Nat) : Box6 (w.setCell ⟨b, i, none⟩ (.int .i64 (c : Int))) b (fun j => if j = i then c else g j) := by
  have := heap_setCell_same w b i _ _ (.int .i64 (c : Int)) h
  unfold Box6
  rw [this]
  rcases six hi with rfl | rfl | rfl | rfl | rfl | rfl <;> rfl
end

end Go.Proofs.Ythnbiiipfcogeaa
