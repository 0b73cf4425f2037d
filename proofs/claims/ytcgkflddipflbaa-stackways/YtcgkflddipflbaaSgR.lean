/- Edges with their costs in a map; rows of six costs, in a box and as a value. -/
/- What it costs to read signs: the program's sum, cost, nowhere. -/
/- What it costs to come to each state by one sign more: the program's edges.by. (Written by wip/tools/sgby.py.) -/
import Derived.Test.YtcgkflddipflbaaSgM
import Derived.Maps.Own
import Derived.Maps.OwnOps
import Derived.Maps.OwnSet
import Derived.Maps.Views
import Derived.WideKeyPair
import Derived.DeepKeys4
import Derived.Deep.RegionHeld3
namespace Go.Proofs.Ytcgkflddipflbaa
open Go.RowKit Go.Maps
set_option linter.unusedVariables false
set_option linter.unusedSimpArgs false

abbrev vE (f s t : Nat) : Value := .agg #[.int .i64 (f : Int), .int .i64 (s : Int), .int .i64 (t : Int)]
def kE (f s t : Nat) : Lit := .string (keyBytes [.int .i64 (f : Int), .int .i64 (s : Int), .int .i64 (t : Int)])
theorem wfG {y : Nat} (h : y < 4611686018427387904) : (Lit.int .i64 (y : Int)).wf = true := WalkArith.wf_i64 (by omega)
theorem zeroG (w : World) : (zeroValue 3).run Try.prog w = .ok (.int .i64 0) w := by kernel_rfl
theorem Try.rowE : (66 : TypeId) < Try.prog.types.size := of_decide_eq_true (by kernel_rfl)
theorem Try.wideE : (match Try.prog.underlying 66 with | some (.array _ _) | some (.struct _) => true | _ => false) = true := by rw [Try.underlying66]
set_option maxRecDepth 100000 in
theorem Try.keyedE : Keyed Try.prog 66 := Keyed.of_law (deep_law_laid Try.laidOut (m := 2) (by omega) Try.rowE (by kernel_rfl) Try.wideE)
theorem Try.cellsE : Try.prog.cellsOf 66 = 3 := by kernel_rfl
theorem Try.cells3E : Try.prog.cellsOf 3 = 1 := by kernel_rfl
theorem Try.ktE : Try.prog.keyType 66 = true := by kernel_rfl
theorem predE {n t : Nat} (h : t < n) : ∃ m, n = m + 1 := ⟨n - 1, by omega⟩
set_option maxRecDepth 100000 in
theorem Try.sizeE : ∃ m, Try.prog.types.size = m + 1 := predE Try.rowE
set_option maxRecDepth 100000 in
theorem kE_key {f s t : Nat} (hf : f < 4611686018427387904) (hs : s < 4611686018427387904) (ht : t < 4611686018427387904) : keyOf Try.prog 66 (vE f s t) = some (kE f s t) := by
  obtain ⟨m, hm⟩ := Try.sizeE
  unfold keyOf
  simp only [Try.underlying66]
  rw [if_pos (by simp [Try.ktE, Value.formed, Try.underlying66, Try.cellsE]), hm]
  unfold Program.keyLits
  simp only [Try.underlying66, Value.cells]
  rw [if_pos (by rw [Try.cellsE]; exact ⟨rfl, by decide +kernel⟩)]
  simp [Try.cells3E, Program.keyLits, Try.underlying3, wfG hf, wfG hs, wfG ht, kE]
theorem kE_inj {f s t f' s' t' : Nat} (h : f < 4611686018427387904 ∧ s < 4611686018427387904 ∧ t < 4611686018427387904) (h' : f' < 4611686018427387904 ∧ s' < 4611686018427387904 ∧ t' < 4611686018427387904) (e : kE f s t = kE f' s' t') : f = f' ∧ s = s' ∧ t = t' := by
  have h1 := Try.keyedE.inj (kE_key h.1 h.2.1 h.2.2) (by rw [e]; exact kE_key h'.1 h'.2.1 h'.2.2)
  simp only [Value.agg.injEq, Array.mk.injEq, List.cons.injEq, Value.int.injEq, true_and, and_true] at h1
  omega
theorem kE_lit (f s t : Nat) : WideAt.IsKeyLit (kE f s t) := by simp [WideAt.IsKeyLit, kE]

/-- The map in block b holds the edges with their costs. -/
structure EdgesAt (w : World) (b : Nat) (E : Edg) : Prop where
  top : Top E
  map : ∃ (D : DataW Unit) (n : Nat), w.ownsMap Try.prog 66 (plainElem Try.prog 3) b n D ∧ n + muE E ≤ 216216 ∧ ∀ f s t, f < 6 → s < 3 → t < 6 → (Maps.has D (kE f s t) = true ↔ E f s t < 2002) ∧ (E f s t < 2002 → ∀ z, D.atKey (kE f s t) z = .lit (.int .i64 (E f s t : Int)))
theorem EdgesAt.kept {w w' : World} {b : Nat} {E : Edg} {row : Option Nat} (h : EdgesAt w b E) (hg : w.grownBy w' row) (hne : row ≠ some b) : EdgesAt w' b E := by
  obtain ⟨D, n, h1, h2⟩ := h.map
  exact ⟨h.top, D, n, h1.kept hg (Ne.symm hne), h2⟩
theorem EdgesAt.block {w : World} {b : Nat} {E : Edg} (h : EdgesAt w b E) : b < w.heap.size ∧ ∃ o, w.heap[b]? = some o ∧ ∀ c t f, o ≠ .cells c t f := by
  obtain ⟨D, n, ⟨es, clock, hb, _⟩, _⟩ := h.map
  exact ⟨(Array.getElem?_eq_some_iff.1 hb).1, _, hb, fun _ _ _ e => by cases e⟩
theorem EdgesAt.ne {w : World} {b g : Nat} {E : Edg} {c : Array Value} {t : TypeId} {fl : Nat × Nat} (h : EdgesAt w b E) (h2 : w.heap[g]? = some (.cells c t fl)) : b ≠ g := by
  rintro rfl
  obtain ⟨_, o, ho, hn⟩ := h.block
  rw [h2] at ho
  cases ho
  exact hn _ _ _ rfl
theorem EdgesAt.look {w : World} {b : Nat} {E : Edg} (h : EdgesAt w b E) {f s t : Nat} (hf : f < 6) (hs : s < 3) (ht : t < 6) :
    (E f s t < 2002 → (Instr.lookup 49 (.map (some b)) (vE f s t) true).run Try.prog w = .ok (.tuple #[.int .i64 (E f s t : Int), .bool true]) w) ∧
    (¬ E f s t < 2002 → ∃ c, (Instr.lookup 49 (.map (some b)) (vE f s t) true).run Try.prog w = .ok (.tuple #[.int .i64 c, .bool false]) w) := by
  obtain ⟨D, n, h1, _, h3⟩ := h.map
  obtain ⟨v, ps, hrun, hv⟩ := h1.look_ok Try.keyedE Try.underlying49 (zeroG w) (plainElem_int Try.underlying3 (by decide)) (kE_key (f := f) (s := s) (t := t) (by omega) (by omega) (by omega))
  obtain ⟨c, rfl, hc, hwc⟩ := plainElem_int_inv Try.underlying3 hv
  simp only [Prod.mk.injEq] at hc
  obtain ⟨k1, k2⟩ := h3 f s t hf hs ht
  refine ⟨fun hm => ?_, fun hm => ⟨c, ?_⟩⟩
  · rw [k2 hm] at hc
    have e3 : c = (E f s t : Nat) := by have := hc.1; simp at this; exact this.symm
    rw [hrun, k1.2 hm, e3]
  · have : Maps.has D (kE f s t) = false := by
      cases hb : Maps.has D (kE f s t) with
      | false => rfl
      | true => exact absurd (k1.1 hb) hm
    rw [hrun, this]
theorem EdgesAt.get {w : World} {b : Nat} {E : Edg} (h : EdgesAt w b E) {f s t : Nat} (hf : f < 6) (hs : s < 3) (ht : t < 6) (hE : E f s t < 2002) : (Instr.lookup 49 (.map (some b)) (vE f s t) false).run Try.prog w = .ok (.int .i64 (E f s t : Int)) w := by
  obtain ⟨D, n, h1, _, h3⟩ := h.map
  obtain ⟨c, hrun, hc, hwc⟩ := h1.lookup_int Try.keyedE Try.underlying49 Try.underlying3 (zeroG w) (kE_key (f := f) (s := s) (t := t) (by omega) (by omega) (by omega))
  obtain ⟨k1, k2⟩ := h3 f s t hf hs ht
  rw [k2 hE] at hc
  have e3 : c = (E f s t : Nat) := by simp at hc; exact hc.symm
  rw [hrun, e3]
theorem EdgesAt.put {w : World} {b : Nat} {E : Edg} (h : EdgesAt w b E) {f s t c : Nat} (hf : f < 6) (hs : s < 3) (ht : t < 6) (hc : c < E f s t) :
    ∃ w', (Instr.mapUpdate 49 (.map (some b)) (vE f s t) (.int .i64 (c : Int))).run Try.prog w = .ok () w' ∧ EdgesAt w' b (updE E f s t c) ∧ w.grownBy w' (some b) := by
  obtain ⟨D, n, h1, h2, h3⟩ := h.map
  have hE := h.top f s t
  obtain ⟨w', hrun, h4, h5⟩ := h1.update Try.keyedE Try.underlying49 (by unfold maxLen; omega) (kE_key (f := f) (s := s) (t := t) (by omega) (by omega) (by omega)) (plainElem_int Try.underlying3 (wfG (y := c) (by omega)))
  refine ⟨w', hrun, ⟨updE_top h.top (by omega), _, n + 1, h4, by have := muE_lt (E := E) hf hs ht hc; omega, fun f' s' t' hf' hs' ht' => ?_⟩, h5⟩
  by_cases e : f' = f ∧ s' = s ∧ t' = t
  · obtain ⟨rfl, rfl, rfl⟩ := e
    rw [updE_same, has_put_same h1.isMap (kE_lit f' s' t')]
    exact ⟨⟨fun _ => by omega, fun _ => rfl⟩, fun _ z => by rw [atKey_put_same h1.isMap (kE_lit f' s' t')]⟩
  · have hne : kE f' s' t' ≠ kE f s t := fun e2 => e (kE_inj ⟨by omega, by omega, by omega⟩ ⟨by omega, by omega, by omega⟩ e2)
    have e2 : updE E f s t c f' s' t' = E f' s' t' := by unfold updE; rw [if_neg e]
    rw [e2, has_put_other hne]
    obtain ⟨k1, k2⟩ := h3 f' s' t' hf' hs' ht'
    exact ⟨k1, fun hl z => by rw [atKey_put_other hne]; exact k2 hl z⟩
theorem edges_made (w : World) : EdgesAt (w.alloc (.map #[] 0)) w.heap.size (fun _ _ _ => 2002) :=
  ⟨fun _ _ _ => Nat.le_refl _, .map [], 0, World.ownsMap_made w _ _ _, by have := muE_le (E := fun _ _ _ => 2002) (fun _ _ _ => Nat.le_refl _); omega, fun f s t _ _ _ => ⟨by simp [Maps.has_eq], fun h => by omega⟩⟩
open Classical in
/-- What a look-up tells of an edge's cost. -/
noncomputable def costW (w : World) (b f s t : Nat) : Nat := if h : ∃ c : Nat, (Instr.lookup 49 (.map (some b)) (vE f s t) true).run Try.prog w = .ok (.tuple #[.int .i64 (c : Int), .bool true]) w then Classical.choose h else 2002
theorem EdgesAt.costW {w : World} {b : Nat} {E : Edg} (h : EdgesAt w b E) {f s t : Nat} (hf : f < 6) (hs : s < 3) (ht : t < 6) : costW w b f s t = E f s t := by
  obtain ⟨h1, h2⟩ := h.look hf hs ht
  unfold Proofs.Ytcgkflddipflbaa.costW
  by_cases hE : E f s t < 2002
  · have h3 : ∃ c : Nat, (Instr.lookup 49 (.map (some b)) (vE f s t) true).run Try.prog w = .ok (.tuple #[.int .i64 (c : Int), .bool true]) w := ⟨_, h1 hE⟩
    rw [dif_pos h3]
    have h4 := (h1 hE).symm.trans (Classical.choose_spec h3)
    simp only [Result.ok.injEq, Value.tuple.injEq, Array.mk.injEq, List.cons.injEq, Value.int.injEq, true_and, and_true] at h4
    omega
  · obtain ⟨c, hc⟩ := h2 hE
    have := h.top f s t
    rw [dif_neg]
    · omega
    · rintro ⟨c', h3⟩
      rw [hc] at h3
      simp at h3
theorem EdgesAt.mu {w : World} {b : Nat} {E : Edg} (h : EdgesAt w b E) : muE (Proofs.Ytcgkflddipflbaa.costW w b) = muE E := muE_congr fun f s t hf hs ht => h.costW hf hs ht

/-- Six costs as a value. -/
abbrev rV (g : Nat → Nat) : Value := .agg #[.int .i64 (g 0 : Int), .int .i64 (g 1 : Int), .int .i64 (g 2 : Int), .int .i64 (g 3 : Int), .int .i64 (g 4 : Int), .int .i64 (g 5 : Int)]
abbrev rArr (g : Nat → Nat) : Array Value := #[.int .i64 (g 0 : Int), .int .i64 (g 1 : Int), .int .i64 (g 2 : Int), .int .i64 (g 3 : Int), .int .i64 (g 4 : Int), .int .i64 (g 5 : Int)]
/-- Six costs in a box. -/
def Box6 (w : World) (b : Nat) (g : Nat → Nat) : Prop := w.heap[b]? = some (.cells (rArr g) 52 (0, 0))
section
variable {w w' : World} {b : Nat} {g : Nat → Nat}
theorem Box6.lt (h : Box6 w b g) : b < w.heap.size := (Array.getElem?_eq_some_iff.1 h).1
theorem Box6.kept (h : Box6 w b g) (hg : w.grownBy w' none) : Box6 w' b g := (hg.block b h.lt (by simp)).trans h
theorem Box6.fz (h : Box6 w b g) (i : Nat) : w.frozen? ⟨b, i, none⟩ = false := frozen_of_row _ _ i _ _ h
theorem Box6.get (h : Box6 w b g) : w.cell? ⟨b, 0, none⟩ = some (.int .i64 (g 0 : Int)) ∧ w.cell? ⟨b, 1, none⟩ = some (.int .i64 (g 1 : Int)) ∧ w.cell? ⟨b, 2, none⟩ = some (.int .i64 (g 2 : Int)) ∧ w.cell? ⟨b, 3, none⟩ = some (.int .i64 (g 3 : Int)) ∧ w.cell? ⟨b, 4, none⟩ = some (.int .i64 (g 4 : Int)) ∧ w.cell? ⟨b, 5, none⟩ = some (.int .i64 (g 5 : Int)) :=
  ⟨by rw [cell_of_row _ _ 0 _ _ (0, 0) h]; rfl, by rw [cell_of_row _ _ 1 _ _ (0, 0) h]; rfl, by rw [cell_of_row _ _ 2 _ _ (0, 0) h]; rfl, by rw [cell_of_row _ _ 3 _ _ (0, 0) h]; rfl, by rw [cell_of_row _ _ 4 _ _ (0, 0) h]; rfl, by rw [cell_of_row _ _ 5 _ _ (0, 0) h]; rfl⟩
theorem six {i : Nat} (h : i < 6) : i = 0 ∨ i = 1 ∨ i = 2 ∨ i = 3 ∨ i = 4 ∨ i = 5 := by omega
theorem rArr_get (g : Nat → Nat) {i : Nat} (h : i < 6) : (rArr g)[i]? = some (.int .i64 (g i : Int)) := by
  rcases six h with rfl | rfl | rfl | rfl | rfl | rfl <;> rfl
theorem Box6.cell (h : Box6 w b g) {i : Nat} (hi : i < 6) : w.cell? ⟨b, i, none⟩ = some (.int .i64 (g i : Int)) := by rw [cell_of_row _ _ i _ _ (0, 0) h]; exact rArr_get g hi
theorem rArr_congr {g g' : Nat → Nat} (h : ∀ i, i < 6 → g i = g' i) : rArr g = rArr g' := by simp only [rArr, h 0 (by omega), h 1 (by omega), h 2 (by omega), h 3 (by omega), h 4 (by omega), h 5 (by omega)]
theorem rV_congr {g g' : Nat → Nat} (h : ∀ i, i < 6 → g i = g' i) : rV g = rV g' := by simp only [rV, h 0 (by omega), h 1 (by omega), h 2 (by omega), h 3 (by omega), h 4 (by omega), h 5 (by omega)]
theorem Box6.congr {g' : Nat → Nat} (h : Box6 w b g) (e : ∀ i, i < 6 → g i = g' i) : Box6 w b g' := by unfold Box6 at h ⊢; rw [← rArr_congr e]; exact h
theorem Box6.set (h : Box6 w b g) {i : Nat} (hi : i < 6) (c : Nat) : Box6 (w.setCell ⟨b, i, none⟩ (.int .i64 (c : Int))) b (fun j => if j = i then c else g j) := by
  have := heap_setCell_same w b i _ _ (.int .i64 (c : Int)) h
  unfold Box6
  rw [this]
  rcases six hi with rfl | rfl | rfl | rfl | rfl | rfl <;> rfl
end

end Go.Proofs.Ytcgkflddipflbaa

namespace Go.Proofs.Ytcgkflddipflbaa
open Go.RowKit Go.Maps
set_option linter.unusedVariables false
set_option linter.unusedSimpArgs false

set_option maxHeartbeats 1600000 in
set_option maxRecDepth 100000 in
theorem sum_any (x y : Nat) (w : World) (hx : x ≤ 2002) (hy : y ≤ 2002) : Calls Try.prog 37 #[.int .i64 (x : Int), .int .i64 (y : Int)] w fun e w' => e = .returned (.int .i64 (sumC x y : Int)) ∧ w' = w := by
  have hw : IntKind.i64.wrap ((x : Int) + (y : Int)) = (x : Int) + (y : Int) := by rw [IntKind.wrap_i64]; omega
  obtain ⟨r, hr⟩ : ∃ r, sumC x y = r := ⟨_, rfl⟩
  have HR : Hid (sumC x y = r) := hr
  rw [hr]
  clear hr
  have bx : ((x : Int) == 2002) = decide (x = 2002) := by
    by_cases e : x = 2002
    · subst e; rfl
    · rw [decide_eq_false e]; simp; omega
  have bY : ((y : Int) == 2002) = decide (y = 2002) := by
    by_cases e : y = 2002
    · subst e; rfl
    · rw [decide_eq_false e]; simp; omega
  have cl : ∀ (v : Int), v = (r : Int) → Ending.returned (.int .i64 v) = Ending.returned (.int .i64 (r : Int)) := fun v e => by rw [e]
  by_cases hxy : (x : Int) < (y : Int)
  · have hle : (x : Int) ≤ (y : Int) := by omega
    have hn : ¬ (y : Int) ≤ (x : Int) := by omega
    by_cases h : y = 2002
    · rw [decide_eq_true h] at bY
      have bZ : ((y : Int) == 2002) = true := bY
      go_enter Try.func37, Try.ntmps37
      go_wp2_with fail
      all_goals
        go_ret
        exact ⟨cl _ (by have := HR.out; unfold sumC at this; split at this <;> omega), rfl⟩
    · rw [decide_eq_false h] at bY
      by_cases h2 : (x : Int) + (y : Int) ≤ 2001
      · go_enter Try.func37, Try.ntmps37
        go_wp2_with fail
        all_goals
          go_ret
          exact ⟨cl _ (by have := HR.out; unfold sumC at this; split at this <;> omega), rfl⟩
      · have h3 : 2001 < (x : Int) + (y : Int) := by omega
        go_enter Try.func37, Try.ntmps37
        go_wp2_with fail
        all_goals
          go_ret
          exact ⟨cl _ (by have := HR.out; unfold sumC at this; split at this <;> omega), rfl⟩
  · have hle : (y : Int) ≤ (x : Int) := by omega
    by_cases h : x = 2002
    · rw [decide_eq_true h] at bx
      have bZ : ((x : Int) == 2002) = true := bx
      go_enter Try.func37, Try.ntmps37
      go_wp2_with fail
      all_goals
        go_ret
        exact ⟨cl _ (by have := HR.out; unfold sumC at this; split at this <;> omega), rfl⟩
    · rw [decide_eq_false h] at bx
      by_cases h2 : (x : Int) + (y : Int) ≤ 2001
      · go_enter Try.func37, Try.ntmps37
        go_wp2_with fail
        all_goals
          go_ret
          exact ⟨cl _ (by have := HR.out; unfold sumC at this; split at this <;> omega), rfl⟩
      · have h3 : 2001 < (x : Int) + (y : Int) := by omega
        go_enter Try.func37, Try.ntmps37
        go_wp2_with fail
        all_goals
          go_ret
          exact ⟨cl _ (by have := HR.out; unfold sumC at this; split at this <;> omega), rfl⟩

set_option maxHeartbeats 1600000 in
set_option maxRecDepth 100000 in
theorem cost_any (b : Nat) (E : Edg) (f s t : Nat) (w : World) (h : EdgesAt w b E) (hf : f < 6) (hs : s < 3) (ht : t < 6) : Calls Try.prog 33 #[.map (some b), vE f s t] w (Says (.int .i64 (E f s t : Int)) w) := by
  have h' : EdgesAt (w.alloc (.cells #[.int .i64 (f : Int), .int .i64 (s : Int), .int .i64 (t : Int)] 66)) b E := h.kept (grown_alloc _ _) (by simp)
  have hb := heap_alloc_new w (.cells #[.int .i64 (f : Int), .int .i64 (s : Int), .int .i64 (t : Int)] 66)
  have c0 : (w.alloc (.cells #[.int .i64 (f : Int), .int .i64 (s : Int), .int .i64 (t : Int)] 66)).cell? ⟨w.heap.size, 0, none⟩ = some (.int .i64 (f : Int)) := by rw [cell_of_row _ _ 0 _ _ (0, 0) hb]; rfl
  have c1 : (w.alloc (.cells #[.int .i64 (f : Int), .int .i64 (s : Int), .int .i64 (t : Int)] 66)).cell? ⟨w.heap.size, 1, none⟩ = some (.int .i64 (s : Int)) := by rw [cell_of_row _ _ 1 _ _ (0, 0) hb]; rfl
  have c2 : (w.alloc (.cells #[.int .i64 (f : Int), .int .i64 (s : Int), .int .i64 (t : Int)] 66)).cell? ⟨w.heap.size, 2, none⟩ = some (.int .i64 (t : Int)) := by rw [cell_of_row _ _ 2 _ _ (0, 0) hb]; rfl
  have HG : Hid (w.grownBy (w.alloc (.cells #[.int .i64 (f : Int), .int .i64 (s : Int), .int .i64 (t : Int)] 66)) none) := grown_alloc _ _
  obtain ⟨k1, k2⟩ := h'.look hf hs ht
  have hE := h.top f s t
  obtain ⟨c, hc⟩ : ∃ c, E f s t = c := ⟨_, rfl⟩
  rw [hc] at k1 k2 hE ⊢
  clear h h' hb hc
  by_cases hl : c < 2002
  · have hrun := k1 hl
    clear k1 k2
    go_enter Try.func33, Try.ntmps33
    go_wp2_with fail
    go_ret
    exact ⟨rfl, HG.out⟩
  · obtain ⟨c', hrun⟩ := k2 hl
    have : c = 2002 := by omega
    subst this
    clear k1 k2
    go_enter Try.func33, Try.ntmps33
    go_wp2_with fail
    go_ret
    exact ⟨rfl, HG.out⟩

theorem index_six (g : Nat → Nat) {k : Nat} (h : k < 6) (W : World) : (Instr.index 52 (rV g) (.int .i64 (k : Int))).run Try.prog W = .ok (.int .i64 (g k : Int)) W := by
  rcases six h with rfl | rfl | rfl | rfl | rfl | rfl
  all_goals simp [Instr.index, go_sem, run_underlying Try.underlying52]
/-- Six cells are written. -/
theorem box6_store {w : World} {b : Nat} {g : Nat → Nat} (h : Box6 w b g) (g' : Nat → Nat) : ∃ W, W = (((((w.setCell ⟨b, 0, none⟩ (.int .i64 (g' 0 : Int))).setCell ⟨b, 1, none⟩ (.int .i64 (g' 1 : Int))).setCell ⟨b, 2, none⟩ (.int .i64 (g' 2 : Int))).setCell ⟨b, 3, none⟩ (.int .i64 (g' 3 : Int))).setCell ⟨b, 4, none⟩ (.int .i64 (g' 4 : Int))).setCell ⟨b, 5, none⟩ (.int .i64 (g' 5 : Int)) ∧ Box6 W b g' ∧ w.grownBy W (some b) := by
  have h6 := (((((h.set (i := 0) (by omega) (g' 0)).set (i := 1) (by omega) (g' 1)).set (i := 2) (by omega) (g' 2)).set (i := 3) (by omega) (g' 3)).set (i := 4) (by omega) (g' 4)).set (i := 5) (by omega) (g' 5)
  refine ⟨_, rfl, h6.congr fun i hi => ?_, ?_⟩
  · rcases six hi with rfl | rfl | rfl | rfl | rfl | rfl <;> rfl
  · exact grown_trans (grown_trans (grown_trans (grown_trans (grown_trans (grown_set _ _ _) (grown_set _ _ _)) (grown_set _ _ _)) (grown_set _ _ _)) (grown_set _ _ _)) (grown_set _ _ _)
theorem box6_new (w : World) (g : Nat → Nat) : Box6 (w.alloc (.cells (rArr g) 52)) w.heap.size g := heap_alloc_new w _
theorem Box6.far {w w' : World} {b c : Nat} {g : Nat → Nat} (h : Box6 w b g) (hg : w.grownBy w' (some c)) (hne : b ≠ c) : Box6 w' b g := (hg.block b h.lt (by simpa using hne)).trans h

set_option maxHeartbeats 3200000 in
set_option maxRecDepth 100000 in
theorem nowhere_any (w : World) : Calls Try.prog 38 #[] w (Says (rV fun _ => 2002) w) := by
  obtain ⟨W1, hW1⟩ : ∃ W1, W1 = (w.alloc (.cells #[.int .i64 0, .int .i64 0, .int .i64 0, .int .i64 0, .int .i64 0, .int .i64 0] 52)).alloc (.cells #[.int .i64 0, .int .i64 0, .int .i64 0, .int .i64 0, .int .i64 0, .int .i64 0] 52) := ⟨_, rfl⟩
  have HW1 : Hid (W1 = _) := hW1
  have X0 : Hid (Box6 W1 w.heap.size (fun _ => 0) ∧ Box6 W1 (w.heap.size + 1) (fun _ => 0) ∧ w.grownBy W1 none) := by
    have b0 := box6_new w (fun _ => 0)
    have b1 := box6_new (w.alloc (.cells (rArr fun _ => 0) 52)) (fun _ => 0)
    rw [hW1]
    refine ⟨b0.kept (grown_alloc _ _), ?_, grown_trans (grown_alloc _ _) (grown_alloc _ _)⟩
    rw [show (w.alloc (.cells (rArr fun _ => 0) 52)).heap.size = w.heap.size + 1 by simp] at b1
    exact b1
  clear hW1
  go_enter Try.func38, Try.ntmps38
  go_wp2_with fail
  rw [← HW1.out]
  clear HW1
  go_loopw [3] (fun v wr => ∃ k : Nat, k ≤ 6 ∧ v = .int .i64 k ∧ Box6 wr w.heap.size (fun _ => 0) ∧ Box6 wr (w.heap.size + 1) (fun i => if i < k then 2002 else 0) ∧ w.grownBy wr none) (fun v _ => 6 - (intOf v).toNat)
  case atStart => exact ⟨0, by omega, rfl, X0.out.1, X0.out.2.1.congr (fun i _ => by simp), X0.out.2.2⟩
  case round =>
    clear X0
    obtain ⟨k, hk, rfl, h0, h1, hg⟩ := hrel
    by_cases hlt : k < 6
    · have hki : (k : Int) < 6 := by omega
      have c1 := h1.cell hlt
      have f1 := h1.fz k
      have HX : Hid (Box6 (wr.setCell ⟨w.heap.size + 1, k, none⟩ (.int .i64 2002)) w.heap.size (fun _ => 0) ∧ Box6 (wr.setCell ⟨w.heap.size + 1, k, none⟩ (.int .i64 2002)) (w.heap.size + 1) (fun i => if i < k + 1 then 2002 else 0) ∧ w.grownBy (wr.setCell ⟨w.heap.size + 1, k, none⟩ (.int .i64 2002)) none) := by
        refine ⟨h0.far (grown_set _ _ _) (by show w.heap.size ≠ w.heap.size + 1; omega), (h1.set hlt 2002).congr fun i hi => ?_, grown_new hg (grown_set _ _ _) (by show w.heap.size ≤ w.heap.size + 1; omega)⟩
        by_cases e : i = k
        · subst e; simp
        · by_cases h : i < k
          · rw [if_neg e, if_pos h, if_pos (by omega)]
          · rw [if_neg e, if_neg h, if_neg (by omega)]
      clear h0 h1 hg
      go_wp2_with fail
      go_roundw
      case rel => exact ⟨k + 1, by omega, by simp, HX.out.1, HX.out.2.1, HX.out.2.2⟩
      case measure => simp [intOf]; omega
    · have hki : ¬ (k : Int) < 6 := by omega
      obtain rfl : k = 6 := by omega
      have h1' := h1.congr (g' := fun _ => 2002) (fun i hi => by rw [if_pos hi])
      obtain ⟨q0, q1, q2, q3, q4, q5⟩ := h1'.get
      obtain ⟨p0, p1, p2, p3, p4, p5⟩ := h0.get
      have z0 := h0.fz 0
      have z1 := h0.fz 1
      have z2 := h0.fz 2
      have z3 := h0.fz 3
      have z4 := h0.fz 4
      have z5 := h0.fz 5
      obtain ⟨W9, hW9, hb9, hg9⟩ := box6_store h0 (fun _ => 2002)
      have c2 : ((2002 : Nat) : Int) = 2002 := rfl
      rw [c2] at hW9
      obtain ⟨r0, r1, r2, r3, r4, r5⟩ := hb9.get
      have G9 : Hid (w.grownBy W9 none) := grown_new hg hg9 (Nat.le_refl _)
      clear h0 h1 h1' hg hg9 hb9
      go_wp2_with fail
      rw [← hW9]
      exact bodyPost_ret (v := rV fun _ => 2002) (by simp [results, Try.results38, go_sem, r0, r1, r2, r3, r4, r5]) rfl ⟨rfl, G9.out⟩

end Go.Proofs.Ytcgkflddipflbaa

namespace Go.Proofs.Ytcgkflddipflbaa
open Go.RowKit Go.Maps
set_option linter.unusedVariables false
set_option linter.unusedSimpArgs false

/-- While signs are read from the first k states, to the first j with the next. -/
def midB (E : Edg) (row : Nat → Nat) (s k j : Nat) : Nat → Nat := fun t => if t < j then minF (fun f => sumC (row f) (E f s t)) (k + 1) else minF (fun f => sumC (row f) (E f s t)) k

set_option maxHeartbeats 6400000 in
set_option maxRecDepth 100000 in
theorem by_any (b s : Nat) (E : Edg) (row : Nat → Nat) (w : World) (h : EdgesAt w b E) (hr : ∀ f, row f ≤ 2002) (hs : s < 3) : Calls Try.prog 39 #[.map (some b), rV row, .int .i64 (s : Int)] w (Says (rV (byC E row (s : Int))) w) := by
  obtain ⟨W1, hW1⟩ : ∃ W1, W1 = (w.alloc (.cells (rArr row) 52)).alloc (.cells #[.int .i64 0, .int .i64 0, .int .i64 0, .int .i64 0, .int .i64 0, .int .i64 0] 52) := ⟨_, rfl⟩
  have HW1 : Hid (W1 = _) := hW1
  have X1 : Hid (Box6 W1 w.heap.size row ∧ Box6 W1 (w.heap.size + 1) (fun _ => 0) ∧ w.grownBy W1 none) := by
    have b0 := box6_new w row
    have b1 := box6_new (w.alloc (.cells (rArr row) 52)) (fun _ => 0)
    rw [hW1]
    refine ⟨b0.kept (grown_alloc _ _), ?_, grown_trans (grown_alloc _ _) (grown_alloc _ _)⟩
    rw [show (w.alloc (.cells (rArr row) 52)).heap.size = w.heap.size + 1 by simp] at b1
    exact b1
  have HE : Hid (∀ V, w.grownBy V none → EdgesAt V b E) := fun V hV => h.kept hV (by simp)
  have hbl := h.block.1
  have HR : Hid (∀ f, row f ≤ 2002) := hr
  have htop := h.top
  have HT : Hid (Top E) := htop
  clear hW1 h hr htop
  go_enter Try.func39, Try.ntmps39
  go_wp2_with fail
  rw [← HW1.out]
  clear HW1
  refine (nowhere_any W1).mono ?_
  rintro e w2 ⟨rfl, hg2⟩
  obtain ⟨W3, hW3⟩ : ∃ W3, W3 = w2.alloc (.cells #[.int .i64 2002, .int .i64 2002, .int .i64 2002, .int .i64 2002, .int .i64 2002, .int .i64 2002] 52) := ⟨_, rfl⟩
  have HW3 : Hid (W3 = _) := hW3
  have g3 : w2.grownBy W3 none := by rw [hW3]; exact grown_alloc _ _
  have B3 : Box6 W3 w2.heap.size (fun _ => 2002) := by rw [hW3]; exact box6_new w2 (fun _ => 2002)
  have HB : Hid (w.heap.size + 1 < w2.heap.size) := by
    have := hg2.size
    have := X1.out.2.1.lt
    show _ < _
    omega
  have X3 : Hid (Box6 W3 (w.heap.size + 1) (fun _ => 0) ∧ Box6 W3 w2.heap.size (fun _ => 2002) ∧ EdgesAt W3 b E ∧ w.grownBy W3 none) := ⟨(X1.out.2.1.kept hg2).kept g3, B3, HE.out _ (grown_trans X1.out.2.2 (grown_trans hg2 g3)), grown_trans X1.out.2.2 (grown_trans hg2 g3)⟩
  obtain ⟨q0, q1, q2, q3, q4, q5⟩ := ((X1.out.1.kept hg2).kept g3).get
  rw [hW3] at q0 q1 q2 q3 q4 q5
  obtain ⟨bn, hbn⟩ : ∃ bn, w2.heap.size = bn := ⟨_, rfl⟩
  clear B3 g3 hW3 hg2 X1
  go_wp2_with fail
  rw [← HW3.out]
  clear HW3 q0 q1 q2 q3 q4 q5
  rw [hbn] at HB X3
  all_goals (try rw [hbn])
  clear hbn
  go_loopw [13] (fun v wr => ∃ k : Nat, k ≤ 6 ∧ v = .int .i64 k ∧ Box6 wr (w.heap.size + 1) (fun _ => 0) ∧ Box6 wr bn (midB E row s k 0) ∧ EdgesAt wr b E ∧ w.grownBy wr none) (fun v _ => 6 - (intOf v).toNat)
  case atStart => exact ⟨0, by omega, rfl, X3.out.1, X3.out.2.1.congr (fun i _ => rfl), X3.out.2.2.1, X3.out.2.2.2⟩
  case round =>
    clear X3
    obtain ⟨k, hk, rfl, h0, h1, h2, hg⟩ := hrel
    by_cases hlt : k < 6
    · have hki : (k : Int) < 6 := by omega
      have X0 : Hid (Box6 wr (w.heap.size + 1) (fun _ => 0) ∧ Box6 wr bn (midB E row s k 0) ∧ EdgesAt wr b E ∧ w.grownBy wr none) := ⟨h0, h1, h2, hg⟩
      have hix := index_six row hlt wr
      have hrk := HR.out k
      obtain ⟨rk, hrkk⟩ : ∃ rk, row k = rk := ⟨_, rfl⟩
      rw [hrkk] at hix hrk
      have HRK : Hid (row k = rk) := hrkk
      clear h0 h1 h2 hg hrkk
      go_wp2_with fail
      go_loopw [17] (fun v wr => ∃ j : Nat, j ≤ 6 ∧ v = .int .i64 j ∧ Box6 wr (w.heap.size + 1) (fun _ => 0) ∧ Box6 wr bn (midB E row s k j) ∧ EdgesAt wr b E ∧ w.grownBy wr none) (fun v _ => 6 - (intOf v).toNat)
      case atStart => exact ⟨0, by omega, rfl, X0.out.1, X0.out.2.1, X0.out.2.2.1, X0.out.2.2.2⟩
      case round =>
        clear X0
        obtain ⟨j, hj6, rfl, h0, h1, h2, hg⟩ := hrel
        by_cases hj : j < 6
        · have hji : (j : Int) < 6 := by omega
          have BN : Hid (Box6 wr bn (midB E row s k j)) := h1
          have r0 := h1.cell hj
          obtain ⟨cur, hcur⟩ : ∃ cur, midB E row s k j j = cur := ⟨_, rfl⟩
          rw [hcur] at r0
          have hce := HT.out k s j
          obtain ⟨ec, hec⟩ : ∃ ec, E k s j = ec := ⟨_, rfl⟩
          obtain ⟨sm, hsm⟩ : ∃ sm, sumC rk ec = sm := ⟨_, rfl⟩
          rw [hec] at hce
          have CC : Hid (∀ V, wr.grownBy V none → Calls Try.prog 33 #[.map (some b), vE k s j] V (Says (.int .i64 (ec : Int)) V)) := fun V hV => by
            have := cost_any b E k s j V (HE.out V (grown_trans hg hV)) (by omega) hs (by omega)
            rwa [hec] at this
          have CS : Hid (∀ V, Calls Try.prog 37 #[.int .i64 (rk : Int), .int .i64 (ec : Int)] V fun e w' => e = .returned (.int .i64 (sm : Int)) ∧ w' = V) := fun V => by
            have := sum_any rk ec V (by omega) hce
            rwa [hsm] at this
          have P8 : Hid (∀ V F, wr.grownBy V none → F = V.setCell ⟨bn, j, none⟩ (.int .i64 ((min cur sm : Nat) : Int)) → Box6 F (w.heap.size + 1) (fun _ => 0) ∧ Box6 F bn (midB E row s k (j + 1)) ∧ EdgesAt F b E ∧ w.grownBy F none) := fun V F hV e => by
            have hb1 := h1.kept hV
            have gF : V.grownBy F (some bn) := by rw [e]; exact grown_set _ _ _
            have hne : b ≠ bn := by have := HB.out; omega
            refine ⟨(h0.kept hV).far gF (by have := HB.out; omega), ?_, (h2.kept hV (by simp)).kept gF (by simpa using fun e => hne e.symm), grown_new (grown_trans hg hV) gF (by have := HB.out; omega)⟩
            rw [e]
            refine (hb1.set hj (min cur sm)).congr fun i hi => ?_
            by_cases ei : i = j
            · subst ei
              rw [if_pos rfl, ← hcur, ← hsm, ← HRK.out, ← hec]
              unfold midB
              rw [if_neg (Nat.lt_irrefl _), if_pos (Nat.lt_succ_self _)]
              rfl
            · rw [if_neg ei]
              unfold midB
              by_cases hlt2 : i < j
              · rw [if_pos hlt2, if_pos (by omega)]
              · rw [if_neg hlt2, if_neg (by omega)]
          have hGV : wr.grownBy wr none := grown_refl _ _
          clear h0 h1 h2 hg hcur hec hsm
          go_wp2_with fail
          by_cases hmn : (cur : Int) ≤ (sm : Int)
          · have hmv : ((min cur sm : Nat) : Int) = (cur : Int) := by omega
            rw [hmv] at P8
            have hmn2 : ¬ (sm : Int) < (cur : Int) := by omega
            refine wp_region_held_drew (S := fun _ => True) (by kernel_rfl) (trivial) (fun hHeld => ?_)
            refine wpAnyH_take (i := 0) (v := ?_) rfl (by kernel_rfl) (by kernel_rfl) (by kernel_rfl) (fun _ _ _ h => h) (Or.inl ⟨by rfl, ?_⟩) (by assumption) ?_
            rotate_left
            · intro W hSw
              go_simp
              with_reducible rfl
            try simp only [Act.put, List.getElem_toArray, List.getElem_cons_succ, List.getElem_cons_zero, List.setIfInBounds_toArray, List.set_cons_zero, List.set_cons_succ]
            refine wpAnyH_take (i := 1) (v := ?_) rfl (by kernel_rfl) (by kernel_rfl) (by kernel_rfl) (fun _ _ _ h => h) (Or.inl ⟨by rfl, ?_⟩) (by assumption) ?_
            rotate_left
            · intro W hSw
              go_simp
              with_reducible rfl
            try simp only [Act.put, List.getElem_toArray, List.getElem_cons_succ, List.getElem_cons_zero, List.setIfInBounds_toArray, List.set_cons_zero, List.set_cons_succ]
            refine wpAnyH_take (i := 2) (v := ?_) rfl (by kernel_rfl) (by kernel_rfl) (by kernel_rfl) (fun _ _ _ h => h) (Or.inl ⟨by rfl, ?_⟩) (by assumption) ?_
            rotate_left
            · intro W hSw
              go_simp
              with_reducible rfl
            try simp only [Act.put, List.getElem_toArray, List.getElem_cons_succ, List.getElem_cons_zero, List.setIfInBounds_toArray, List.set_cons_zero, List.set_cons_succ]
            refine wpAnyH_take (i := 4) (v := ?_) rfl (by kernel_rfl) (by kernel_rfl) (by kernel_rfl) (fun _ _ _ h => h) (Or.inl ⟨by rfl, ?_⟩) (by assumption) ?_
            rotate_left
            · intro W hSw
              go_simp
              with_reducible rfl
            try simp only [Act.put, List.getElem_toArray, List.getElem_cons_succ, List.getElem_cons_zero, List.setIfInBounds_toArray, List.set_cons_zero, List.set_cons_succ]
            refine wpAnyH_take (i := 5) (v := ?_) rfl (by kernel_rfl) (by kernel_rfl) (by kernel_rfl) (fun _ _ _ h => h) (Or.inl ⟨by rfl, ?_⟩) (by assumption) ?_
            rotate_left
            · intro W hSw
              go_simp
              with_reducible rfl
            try simp only [Act.put, List.getElem_toArray, List.getElem_cons_succ, List.getElem_cons_zero, List.setIfInBounds_toArray, List.set_cons_zero, List.set_cons_succ]
            refine wpAnyH_take (i := 6) (v := ?_) rfl (by kernel_rfl) (by kernel_rfl) (by kernel_rfl) (fun _ _ _ h => h) (Or.inl ⟨by rfl, ?_⟩) (by assumption) ?_
            rotate_left
            · intro W hSw
              go_simp
              with_reducible rfl
            try simp only [Act.put, List.getElem_toArray, List.getElem_cons_succ, List.getElem_cons_zero, List.setIfInBounds_toArray, List.set_cons_zero, List.set_cons_succ]
            refine wpAnyH_take (i := 7) (v := ?_) rfl (by kernel_rfl) (by kernel_rfl) (by kernel_rfl) (fun _ _ _ h => h) (Or.inl ⟨by rfl, ?_⟩) (by assumption) ?_
            rotate_left
            · intro W hSw
              go_simp
              with_reducible rfl
            try simp only [Act.put, List.getElem_toArray, List.getElem_cons_succ, List.getElem_cons_zero, List.setIfInBounds_toArray, List.set_cons_zero, List.set_cons_succ]
            refine wpAnyH_take (i := 8) (v := ?_) rfl (by kernel_rfl) (by kernel_rfl) (by kernel_rfl) (fun _ _ _ h => h) (Or.inl ⟨by rfl, ?_⟩) (by assumption) ?_
            rotate_left
            · intro W hSw
              go_simp
              with_reducible rfl
            try simp only [Act.put, List.getElem_toArray, List.getElem_cons_succ, List.getElem_cons_zero, List.setIfInBounds_toArray, List.set_cons_zero, List.set_cons_succ]
            refine wpAnyH_take (i := 9) (v := ?_) rfl (by kernel_rfl) (by kernel_rfl) (by kernel_rfl) (fun _ _ _ h => h) (Or.inl ⟨by rfl, ?_⟩) (by assumption) ?_
            rotate_left
            · intro W hSw
              go_simp
              with_reducible rfl
            try simp only [Act.put, List.getElem_toArray, List.getElem_cons_succ, List.getElem_cons_zero, List.setIfInBounds_toArray, List.set_cons_zero, List.set_cons_succ]
            refine wpAnyH_ready (rs := [3, 10]) (by kernel_rfl) (by simp) ?_
            refine AllReadyH.cons (o := _) rfl (fun K' hK => ?_) ?_
            · go_simp
              refine hK.out _ _ (trivial) (fun hHeld => ?_)
              clear hK K'
              try simp only [Act.put, List.getElem_toArray, List.getElem_cons_succ, List.getElem_cons_zero, List.setIfInBounds_toArray, List.set_cons_zero, List.set_cons_succ]
              refine wpAnyH_ready (rs := [10]) (by kernel_rfl) (by simp) ?_
              refine AllReadyH.cons (o := _) rfl (fun K' hK => ?_) ?_
              · go_simp
                refine (CC.out _ (by first | exact hGV | exact grown_trans hGV (grown_drew (grown_refl _ _)) | exact grown_drew (grown_refl _ _))).mono ?_
                rintro e w7 ⟨rfl, hg7⟩
                go_wp2_with fail
                refine hK.out _ _ (trivial) (fun hHeld => ?_)
                clear hK K'
                try simp only [Act.put, List.getElem_toArray, List.getElem_cons_succ, List.getElem_cons_zero, List.setIfInBounds_toArray, List.set_cons_zero, List.set_cons_succ]
                refine wpAnyH_ready (rs := [11]) (by kernel_rfl) (by simp) ?_
                refine AllReadyH.cons (o := _) rfl (fun K' hK => ?_) ?_
                · go_simp
                  refine (CS.out _).mono ?_
                  rintro e w8 ⟨rfl, hw8⟩
                  rw [hw8]
                  clear hw8
                  go_wp2_with fail
                  refine hK.out _ _ (trivial) (fun hHeld => ?_)
                  clear hK K'
                  try simp only [Act.put, List.getElem_toArray, List.getElem_cons_succ, List.getElem_cons_zero, List.setIfInBounds_toArray, List.set_cons_zero, List.set_cons_succ]
                  refine wpAnyH_take (i := 12) (v := ?_) rfl (by kernel_rfl) (by kernel_rfl) (by kernel_rfl) (fun _ _ _ h => h) (Or.inl ⟨by rfl, ?_⟩) (by assumption) ?_
                  rotate_left
                  · intro W hSw
                    go_simp
                    with_reducible rfl
                  try simp only [Act.put, List.getElem_toArray, List.getElem_cons_succ, List.getElem_cons_zero, List.setIfInBounds_toArray, List.set_cons_zero, List.set_cons_succ]
                  refine wpAnyH_take (i := 13) (v := ?_) rfl (by kernel_rfl) (by kernel_rfl) (by kernel_rfl) (fun _ _ _ h => h) (Or.inl ⟨by rfl, ?_⟩) (by assumption) ?_
                  rotate_left
                  · intro W hSw
                    go_simp
                    with_reducible rfl
                  try simp only [Act.put, List.getElem_toArray, List.getElem_cons_succ, List.getElem_cons_zero, List.setIfInBounds_toArray, List.set_cons_zero, List.set_cons_succ]
                  refine wpAnyH_ready (rs := [14]) (by kernel_rfl) (by simp) ?_
                  refine AllReadyH.cons (o := _) rfl (fun K' hK => ?_) ?_
                  · have gA := grown_trans (grown_drew (grown_refl _ _)) hg7
                    have q0 := (BN.out.kept gA).cell hj
                    have z0 := (BN.out.kept gA).fz j
                    go_simp
                    refine hK.out _ _ (trivial) (fun hHeld => ?_)
                    clear hK K'
                    try simp only [Act.put, List.getElem_toArray, List.getElem_cons_succ, List.getElem_cons_zero, List.setIfInBounds_toArray, List.set_cons_zero, List.set_cons_succ]
                    refine wpAnyH_done (by kernel_rfl) ?_ _
                    go_wp2_with fail
                    go_roundw
                    case rel =>
                      obtain ⟨x1, x2, x3, x4⟩ := P8.out _ _ gA rfl
                      exact ⟨j + 1, by omega, by simp, x1, x2, x3, x4⟩
                    case measure => simp [intOf]; omega
                  exact AllReadyH.nil
                exact AllReadyH.nil
              exact AllReadyH.nil
            refine AllReadyH.cons (o := _) rfl (fun K' hK => ?_) ?_
            · go_simp
              refine (CC.out _ (by first | exact hGV | exact grown_trans hGV (grown_drew (grown_refl _ _)) | exact grown_drew (grown_refl _ _))).mono ?_
              rintro e w7 ⟨rfl, hg7⟩
              go_wp2_with fail
              refine hK.out _ _ (trivial) (fun hHeld => ?_)
              clear hK K'
              try simp only [Act.put, List.getElem_toArray, List.getElem_cons_succ, List.getElem_cons_zero, List.setIfInBounds_toArray, List.set_cons_zero, List.set_cons_succ]
              refine wpAnyH_ready (rs := [3, 11]) (by kernel_rfl) (by simp) ?_
              refine AllReadyH.cons (o := _) rfl (fun K' hK => ?_) ?_
              · have r0' := (grown_trans (grown_drew (grown_refl _ _)) hg7).cell r0 (by simp)
                go_simp
                refine hK.out _ _ (trivial) (fun hHeld => ?_)
                clear hK K'
                try simp only [Act.put, List.getElem_toArray, List.getElem_cons_succ, List.getElem_cons_zero, List.setIfInBounds_toArray, List.set_cons_zero, List.set_cons_succ]
                refine wpAnyH_ready (rs := [11]) (by kernel_rfl) (by simp) ?_
                refine AllReadyH.cons (o := _) rfl (fun K' hK => ?_) ?_
                · go_simp
                  refine (CS.out _).mono ?_
                  rintro e w8 ⟨rfl, hw8⟩
                  rw [hw8]
                  clear hw8
                  go_wp2_with fail
                  refine hK.out _ _ (trivial) (fun hHeld => ?_)
                  clear hK K'
                  try simp only [Act.put, List.getElem_toArray, List.getElem_cons_succ, List.getElem_cons_zero, List.setIfInBounds_toArray, List.set_cons_zero, List.set_cons_succ]
                  refine wpAnyH_take (i := 12) (v := ?_) rfl (by kernel_rfl) (by kernel_rfl) (by kernel_rfl) (fun _ _ _ h => h) (Or.inl ⟨by rfl, ?_⟩) (by assumption) ?_
                  rotate_left
                  · intro W hSw
                    go_simp
                    with_reducible rfl
                  try simp only [Act.put, List.getElem_toArray, List.getElem_cons_succ, List.getElem_cons_zero, List.setIfInBounds_toArray, List.set_cons_zero, List.set_cons_succ]
                  refine wpAnyH_take (i := 13) (v := ?_) rfl (by kernel_rfl) (by kernel_rfl) (by kernel_rfl) (fun _ _ _ h => h) (Or.inl ⟨by rfl, ?_⟩) (by assumption) ?_
                  rotate_left
                  · intro W hSw
                    go_simp
                    with_reducible rfl
                  try simp only [Act.put, List.getElem_toArray, List.getElem_cons_succ, List.getElem_cons_zero, List.setIfInBounds_toArray, List.set_cons_zero, List.set_cons_succ]
                  refine wpAnyH_ready (rs := [14]) (by kernel_rfl) (by simp) ?_
                  refine AllReadyH.cons (o := _) rfl (fun K' hK => ?_) ?_
                  · have gA := grown_trans (grown_drew (grown_refl _ _)) hg7
                    have q0 := (BN.out.kept gA).cell hj
                    have z0 := (BN.out.kept gA).fz j
                    go_simp
                    refine hK.out _ _ (trivial) (fun hHeld => ?_)
                    clear hK K'
                    try simp only [Act.put, List.getElem_toArray, List.getElem_cons_succ, List.getElem_cons_zero, List.setIfInBounds_toArray, List.set_cons_zero, List.set_cons_succ]
                    refine wpAnyH_done (by kernel_rfl) ?_ _
                    go_wp2_with fail
                    go_roundw
                    case rel =>
                      obtain ⟨x1, x2, x3, x4⟩ := P8.out _ _ gA rfl
                      exact ⟨j + 1, by omega, by simp, x1, x2, x3, x4⟩
                    case measure => simp [intOf]; omega
                  exact AllReadyH.nil
                exact AllReadyH.nil
              refine AllReadyH.cons (o := _) rfl (fun K' hK => ?_) ?_
              · go_simp
                refine (CS.out _).mono ?_
                rintro e w8 ⟨rfl, hw8⟩
                rw [hw8]
                clear hw8
                go_wp2_with fail
                refine hK.out _ _ (trivial) (fun hHeld => ?_)
                clear hK K'
                try simp only [Act.put, List.getElem_toArray, List.getElem_cons_succ, List.getElem_cons_zero, List.setIfInBounds_toArray, List.set_cons_zero, List.set_cons_succ]
                refine wpAnyH_ready (rs := [3]) (by kernel_rfl) (by simp) ?_
                refine AllReadyH.cons (o := _) rfl (fun K' hK => ?_) ?_
                · have r0' := (grown_trans (grown_drew (grown_refl _ _)) hg7).cell r0 (by simp)
                  go_simp
                  refine hK.out _ _ (trivial) (fun hHeld => ?_)
                  clear hK K'
                  try simp only [Act.put, List.getElem_toArray, List.getElem_cons_succ, List.getElem_cons_zero, List.setIfInBounds_toArray, List.set_cons_zero, List.set_cons_succ]
                  refine wpAnyH_take (i := 12) (v := ?_) rfl (by kernel_rfl) (by kernel_rfl) (by kernel_rfl) (fun _ _ _ h => h) (Or.inl ⟨by rfl, ?_⟩) (by assumption) ?_
                  rotate_left
                  · intro W hSw
                    go_simp
                    with_reducible rfl
                  try simp only [Act.put, List.getElem_toArray, List.getElem_cons_succ, List.getElem_cons_zero, List.setIfInBounds_toArray, List.set_cons_zero, List.set_cons_succ]
                  refine wpAnyH_take (i := 13) (v := ?_) rfl (by kernel_rfl) (by kernel_rfl) (by kernel_rfl) (fun _ _ _ h => h) (Or.inl ⟨by rfl, ?_⟩) (by assumption) ?_
                  rotate_left
                  · intro W hSw
                    go_simp
                    with_reducible rfl
                  try simp only [Act.put, List.getElem_toArray, List.getElem_cons_succ, List.getElem_cons_zero, List.setIfInBounds_toArray, List.set_cons_zero, List.set_cons_succ]
                  refine wpAnyH_ready (rs := [14]) (by kernel_rfl) (by simp) ?_
                  refine AllReadyH.cons (o := _) rfl (fun K' hK => ?_) ?_
                  · have gA := grown_trans (grown_drew (grown_refl _ _)) hg7
                    have q0 := (BN.out.kept gA).cell hj
                    have z0 := (BN.out.kept gA).fz j
                    go_simp
                    refine hK.out _ _ (trivial) (fun hHeld => ?_)
                    clear hK K'
                    try simp only [Act.put, List.getElem_toArray, List.getElem_cons_succ, List.getElem_cons_zero, List.setIfInBounds_toArray, List.set_cons_zero, List.set_cons_succ]
                    refine wpAnyH_done (by kernel_rfl) ?_ _
                    go_wp2_with fail
                    go_roundw
                    case rel =>
                      obtain ⟨x1, x2, x3, x4⟩ := P8.out _ _ gA rfl
                      exact ⟨j + 1, by omega, by simp, x1, x2, x3, x4⟩
                    case measure => simp [intOf]; omega
                  exact AllReadyH.nil
                exact AllReadyH.nil
              exact AllReadyH.nil
            exact AllReadyH.nil
          · have hmv : ((min cur sm : Nat) : Int) = (sm : Int) := by omega
            rw [hmv] at P8
            have hmn2 : (sm : Int) < (cur : Int) := by omega
            refine wp_region_held_drew (S := fun _ => True) (by kernel_rfl) (trivial) (fun hHeld => ?_)
            refine wpAnyH_take (i := 0) (v := ?_) rfl (by kernel_rfl) (by kernel_rfl) (by kernel_rfl) (fun _ _ _ h => h) (Or.inl ⟨by rfl, ?_⟩) (by assumption) ?_
            rotate_left
            · intro W hSw
              go_simp
              with_reducible rfl
            try simp only [Act.put, List.getElem_toArray, List.getElem_cons_succ, List.getElem_cons_zero, List.setIfInBounds_toArray, List.set_cons_zero, List.set_cons_succ]
            refine wpAnyH_take (i := 1) (v := ?_) rfl (by kernel_rfl) (by kernel_rfl) (by kernel_rfl) (fun _ _ _ h => h) (Or.inl ⟨by rfl, ?_⟩) (by assumption) ?_
            rotate_left
            · intro W hSw
              go_simp
              with_reducible rfl
            try simp only [Act.put, List.getElem_toArray, List.getElem_cons_succ, List.getElem_cons_zero, List.setIfInBounds_toArray, List.set_cons_zero, List.set_cons_succ]
            refine wpAnyH_take (i := 2) (v := ?_) rfl (by kernel_rfl) (by kernel_rfl) (by kernel_rfl) (fun _ _ _ h => h) (Or.inl ⟨by rfl, ?_⟩) (by assumption) ?_
            rotate_left
            · intro W hSw
              go_simp
              with_reducible rfl
            try simp only [Act.put, List.getElem_toArray, List.getElem_cons_succ, List.getElem_cons_zero, List.setIfInBounds_toArray, List.set_cons_zero, List.set_cons_succ]
            refine wpAnyH_take (i := 4) (v := ?_) rfl (by kernel_rfl) (by kernel_rfl) (by kernel_rfl) (fun _ _ _ h => h) (Or.inl ⟨by rfl, ?_⟩) (by assumption) ?_
            rotate_left
            · intro W hSw
              go_simp
              with_reducible rfl
            try simp only [Act.put, List.getElem_toArray, List.getElem_cons_succ, List.getElem_cons_zero, List.setIfInBounds_toArray, List.set_cons_zero, List.set_cons_succ]
            refine wpAnyH_take (i := 5) (v := ?_) rfl (by kernel_rfl) (by kernel_rfl) (by kernel_rfl) (fun _ _ _ h => h) (Or.inl ⟨by rfl, ?_⟩) (by assumption) ?_
            rotate_left
            · intro W hSw
              go_simp
              with_reducible rfl
            try simp only [Act.put, List.getElem_toArray, List.getElem_cons_succ, List.getElem_cons_zero, List.setIfInBounds_toArray, List.set_cons_zero, List.set_cons_succ]
            refine wpAnyH_take (i := 6) (v := ?_) rfl (by kernel_rfl) (by kernel_rfl) (by kernel_rfl) (fun _ _ _ h => h) (Or.inl ⟨by rfl, ?_⟩) (by assumption) ?_
            rotate_left
            · intro W hSw
              go_simp
              with_reducible rfl
            try simp only [Act.put, List.getElem_toArray, List.getElem_cons_succ, List.getElem_cons_zero, List.setIfInBounds_toArray, List.set_cons_zero, List.set_cons_succ]
            refine wpAnyH_take (i := 7) (v := ?_) rfl (by kernel_rfl) (by kernel_rfl) (by kernel_rfl) (fun _ _ _ h => h) (Or.inl ⟨by rfl, ?_⟩) (by assumption) ?_
            rotate_left
            · intro W hSw
              go_simp
              with_reducible rfl
            try simp only [Act.put, List.getElem_toArray, List.getElem_cons_succ, List.getElem_cons_zero, List.setIfInBounds_toArray, List.set_cons_zero, List.set_cons_succ]
            refine wpAnyH_take (i := 8) (v := ?_) rfl (by kernel_rfl) (by kernel_rfl) (by kernel_rfl) (fun _ _ _ h => h) (Or.inl ⟨by rfl, ?_⟩) (by assumption) ?_
            rotate_left
            · intro W hSw
              go_simp
              with_reducible rfl
            try simp only [Act.put, List.getElem_toArray, List.getElem_cons_succ, List.getElem_cons_zero, List.setIfInBounds_toArray, List.set_cons_zero, List.set_cons_succ]
            refine wpAnyH_take (i := 9) (v := ?_) rfl (by kernel_rfl) (by kernel_rfl) (by kernel_rfl) (fun _ _ _ h => h) (Or.inl ⟨by rfl, ?_⟩) (by assumption) ?_
            rotate_left
            · intro W hSw
              go_simp
              with_reducible rfl
            try simp only [Act.put, List.getElem_toArray, List.getElem_cons_succ, List.getElem_cons_zero, List.setIfInBounds_toArray, List.set_cons_zero, List.set_cons_succ]
            refine wpAnyH_ready (rs := [3, 10]) (by kernel_rfl) (by simp) ?_
            refine AllReadyH.cons (o := _) rfl (fun K' hK => ?_) ?_
            · go_simp
              refine hK.out _ _ (trivial) (fun hHeld => ?_)
              clear hK K'
              try simp only [Act.put, List.getElem_toArray, List.getElem_cons_succ, List.getElem_cons_zero, List.setIfInBounds_toArray, List.set_cons_zero, List.set_cons_succ]
              refine wpAnyH_ready (rs := [10]) (by kernel_rfl) (by simp) ?_
              refine AllReadyH.cons (o := _) rfl (fun K' hK => ?_) ?_
              · go_simp
                refine (CC.out _ (by first | exact hGV | exact grown_trans hGV (grown_drew (grown_refl _ _)) | exact grown_drew (grown_refl _ _))).mono ?_
                rintro e w7 ⟨rfl, hg7⟩
                go_wp2_with fail
                refine hK.out _ _ (trivial) (fun hHeld => ?_)
                clear hK K'
                try simp only [Act.put, List.getElem_toArray, List.getElem_cons_succ, List.getElem_cons_zero, List.setIfInBounds_toArray, List.set_cons_zero, List.set_cons_succ]
                refine wpAnyH_ready (rs := [11]) (by kernel_rfl) (by simp) ?_
                refine AllReadyH.cons (o := _) rfl (fun K' hK => ?_) ?_
                · go_simp
                  refine (CS.out _).mono ?_
                  rintro e w8 ⟨rfl, hw8⟩
                  rw [hw8]
                  clear hw8
                  go_wp2_with fail
                  refine hK.out _ _ (trivial) (fun hHeld => ?_)
                  clear hK K'
                  try simp only [Act.put, List.getElem_toArray, List.getElem_cons_succ, List.getElem_cons_zero, List.setIfInBounds_toArray, List.set_cons_zero, List.set_cons_succ]
                  refine wpAnyH_take (i := 12) (v := ?_) rfl (by kernel_rfl) (by kernel_rfl) (by kernel_rfl) (fun _ _ _ h => h) (Or.inl ⟨by rfl, ?_⟩) (by assumption) ?_
                  rotate_left
                  · intro W hSw
                    go_simp
                    with_reducible rfl
                  try simp only [Act.put, List.getElem_toArray, List.getElem_cons_succ, List.getElem_cons_zero, List.setIfInBounds_toArray, List.set_cons_zero, List.set_cons_succ]
                  refine wpAnyH_take (i := 13) (v := ?_) rfl (by kernel_rfl) (by kernel_rfl) (by kernel_rfl) (fun _ _ _ h => h) (Or.inl ⟨by rfl, ?_⟩) (by assumption) ?_
                  rotate_left
                  · intro W hSw
                    go_simp
                    with_reducible rfl
                  try simp only [Act.put, List.getElem_toArray, List.getElem_cons_succ, List.getElem_cons_zero, List.setIfInBounds_toArray, List.set_cons_zero, List.set_cons_succ]
                  refine wpAnyH_ready (rs := [14]) (by kernel_rfl) (by simp) ?_
                  refine AllReadyH.cons (o := _) rfl (fun K' hK => ?_) ?_
                  · have gA := grown_trans (grown_drew (grown_refl _ _)) hg7
                    have q0 := (BN.out.kept gA).cell hj
                    have z0 := (BN.out.kept gA).fz j
                    go_simp
                    refine hK.out _ _ (trivial) (fun hHeld => ?_)
                    clear hK K'
                    try simp only [Act.put, List.getElem_toArray, List.getElem_cons_succ, List.getElem_cons_zero, List.setIfInBounds_toArray, List.set_cons_zero, List.set_cons_succ]
                    refine wpAnyH_done (by kernel_rfl) ?_ _
                    go_wp2_with fail
                    go_roundw
                    case rel =>
                      obtain ⟨x1, x2, x3, x4⟩ := P8.out _ _ gA rfl
                      exact ⟨j + 1, by omega, by simp, x1, x2, x3, x4⟩
                    case measure => simp [intOf]; omega
                  exact AllReadyH.nil
                exact AllReadyH.nil
              exact AllReadyH.nil
            refine AllReadyH.cons (o := _) rfl (fun K' hK => ?_) ?_
            · go_simp
              refine (CC.out _ (by first | exact hGV | exact grown_trans hGV (grown_drew (grown_refl _ _)) | exact grown_drew (grown_refl _ _))).mono ?_
              rintro e w7 ⟨rfl, hg7⟩
              go_wp2_with fail
              refine hK.out _ _ (trivial) (fun hHeld => ?_)
              clear hK K'
              try simp only [Act.put, List.getElem_toArray, List.getElem_cons_succ, List.getElem_cons_zero, List.setIfInBounds_toArray, List.set_cons_zero, List.set_cons_succ]
              refine wpAnyH_ready (rs := [3, 11]) (by kernel_rfl) (by simp) ?_
              refine AllReadyH.cons (o := _) rfl (fun K' hK => ?_) ?_
              · have r0' := (grown_trans (grown_drew (grown_refl _ _)) hg7).cell r0 (by simp)
                go_simp
                refine hK.out _ _ (trivial) (fun hHeld => ?_)
                clear hK K'
                try simp only [Act.put, List.getElem_toArray, List.getElem_cons_succ, List.getElem_cons_zero, List.setIfInBounds_toArray, List.set_cons_zero, List.set_cons_succ]
                refine wpAnyH_ready (rs := [11]) (by kernel_rfl) (by simp) ?_
                refine AllReadyH.cons (o := _) rfl (fun K' hK => ?_) ?_
                · go_simp
                  refine (CS.out _).mono ?_
                  rintro e w8 ⟨rfl, hw8⟩
                  rw [hw8]
                  clear hw8
                  go_wp2_with fail
                  refine hK.out _ _ (trivial) (fun hHeld => ?_)
                  clear hK K'
                  try simp only [Act.put, List.getElem_toArray, List.getElem_cons_succ, List.getElem_cons_zero, List.setIfInBounds_toArray, List.set_cons_zero, List.set_cons_succ]
                  refine wpAnyH_take (i := 12) (v := ?_) rfl (by kernel_rfl) (by kernel_rfl) (by kernel_rfl) (fun _ _ _ h => h) (Or.inl ⟨by rfl, ?_⟩) (by assumption) ?_
                  rotate_left
                  · intro W hSw
                    go_simp
                    with_reducible rfl
                  try simp only [Act.put, List.getElem_toArray, List.getElem_cons_succ, List.getElem_cons_zero, List.setIfInBounds_toArray, List.set_cons_zero, List.set_cons_succ]
                  refine wpAnyH_take (i := 13) (v := ?_) rfl (by kernel_rfl) (by kernel_rfl) (by kernel_rfl) (fun _ _ _ h => h) (Or.inl ⟨by rfl, ?_⟩) (by assumption) ?_
                  rotate_left
                  · intro W hSw
                    go_simp
                    with_reducible rfl
                  try simp only [Act.put, List.getElem_toArray, List.getElem_cons_succ, List.getElem_cons_zero, List.setIfInBounds_toArray, List.set_cons_zero, List.set_cons_succ]
                  refine wpAnyH_ready (rs := [14]) (by kernel_rfl) (by simp) ?_
                  refine AllReadyH.cons (o := _) rfl (fun K' hK => ?_) ?_
                  · have gA := grown_trans (grown_drew (grown_refl _ _)) hg7
                    have q0 := (BN.out.kept gA).cell hj
                    have z0 := (BN.out.kept gA).fz j
                    go_simp
                    refine hK.out _ _ (trivial) (fun hHeld => ?_)
                    clear hK K'
                    try simp only [Act.put, List.getElem_toArray, List.getElem_cons_succ, List.getElem_cons_zero, List.setIfInBounds_toArray, List.set_cons_zero, List.set_cons_succ]
                    refine wpAnyH_done (by kernel_rfl) ?_ _
                    go_wp2_with fail
                    go_roundw
                    case rel =>
                      obtain ⟨x1, x2, x3, x4⟩ := P8.out _ _ gA rfl
                      exact ⟨j + 1, by omega, by simp, x1, x2, x3, x4⟩
                    case measure => simp [intOf]; omega
                  exact AllReadyH.nil
                exact AllReadyH.nil
              refine AllReadyH.cons (o := _) rfl (fun K' hK => ?_) ?_
              · go_simp
                refine (CS.out _).mono ?_
                rintro e w8 ⟨rfl, hw8⟩
                rw [hw8]
                clear hw8
                go_wp2_with fail
                refine hK.out _ _ (trivial) (fun hHeld => ?_)
                clear hK K'
                try simp only [Act.put, List.getElem_toArray, List.getElem_cons_succ, List.getElem_cons_zero, List.setIfInBounds_toArray, List.set_cons_zero, List.set_cons_succ]
                refine wpAnyH_ready (rs := [3]) (by kernel_rfl) (by simp) ?_
                refine AllReadyH.cons (o := _) rfl (fun K' hK => ?_) ?_
                · have r0' := (grown_trans (grown_drew (grown_refl _ _)) hg7).cell r0 (by simp)
                  go_simp
                  refine hK.out _ _ (trivial) (fun hHeld => ?_)
                  clear hK K'
                  try simp only [Act.put, List.getElem_toArray, List.getElem_cons_succ, List.getElem_cons_zero, List.setIfInBounds_toArray, List.set_cons_zero, List.set_cons_succ]
                  refine wpAnyH_take (i := 12) (v := ?_) rfl (by kernel_rfl) (by kernel_rfl) (by kernel_rfl) (fun _ _ _ h => h) (Or.inl ⟨by rfl, ?_⟩) (by assumption) ?_
                  rotate_left
                  · intro W hSw
                    go_simp
                    with_reducible rfl
                  try simp only [Act.put, List.getElem_toArray, List.getElem_cons_succ, List.getElem_cons_zero, List.setIfInBounds_toArray, List.set_cons_zero, List.set_cons_succ]
                  refine wpAnyH_take (i := 13) (v := ?_) rfl (by kernel_rfl) (by kernel_rfl) (by kernel_rfl) (fun _ _ _ h => h) (Or.inl ⟨by rfl, ?_⟩) (by assumption) ?_
                  rotate_left
                  · intro W hSw
                    go_simp
                    with_reducible rfl
                  try simp only [Act.put, List.getElem_toArray, List.getElem_cons_succ, List.getElem_cons_zero, List.setIfInBounds_toArray, List.set_cons_zero, List.set_cons_succ]
                  refine wpAnyH_ready (rs := [14]) (by kernel_rfl) (by simp) ?_
                  refine AllReadyH.cons (o := _) rfl (fun K' hK => ?_) ?_
                  · have gA := grown_trans (grown_drew (grown_refl _ _)) hg7
                    have q0 := (BN.out.kept gA).cell hj
                    have z0 := (BN.out.kept gA).fz j
                    go_simp
                    refine hK.out _ _ (trivial) (fun hHeld => ?_)
                    clear hK K'
                    try simp only [Act.put, List.getElem_toArray, List.getElem_cons_succ, List.getElem_cons_zero, List.setIfInBounds_toArray, List.set_cons_zero, List.set_cons_succ]
                    refine wpAnyH_done (by kernel_rfl) ?_ _
                    go_wp2_with fail
                    go_roundw
                    case rel =>
                      obtain ⟨x1, x2, x3, x4⟩ := P8.out _ _ gA rfl
                      exact ⟨j + 1, by omega, by simp, x1, x2, x3, x4⟩
                    case measure => simp [intOf]; omega
                  exact AllReadyH.nil
                exact AllReadyH.nil
              exact AllReadyH.nil
            exact AllReadyH.nil
        · have hji : ¬ (j : Int) < 6 := by omega
          obtain rfl : j = 6 := by omega
          have HX : Hid (Box6 wr (w.heap.size + 1) (fun _ => 0) ∧ Box6 wr bn (midB E row s (k + 1) 0) ∧ EdgesAt wr b E ∧ w.grownBy wr none) := ⟨h0, h1.congr (fun i hi => by unfold midB; rw [if_pos hi, if_neg (by omega)]), h2, hg⟩
          clear h0 h1 h2 hg
          go_wp2_with fail
          exact ⟨⟨k + 1, by omega, by simp, HX.out.1, HX.out.2.1, HX.out.2.2.1, HX.out.2.2.2⟩, by simp [intOf]; omega⟩
    · have hki : ¬ (k : Int) < 6 := by omega
      obtain rfl : k = 6 := by omega
      have h1' := h1.congr (g' := byC E row (s : Int)) (fun i hi => by unfold midB byC; rw [if_neg (by omega), Int.toNat_natCast])
      obtain ⟨q0, q1, q2, q3, q4, q5⟩ := h1'.get
      obtain ⟨p0, p1, p2, p3, p4, p5⟩ := h0.get
      have z0 := h0.fz 0
      have z1 := h0.fz 1
      have z2 := h0.fz 2
      have z3 := h0.fz 3
      have z4 := h0.fz 4
      have z5 := h0.fz 5
      obtain ⟨W9, hW9, hb9, hg9⟩ := box6_store h0 (byC E row (s : Int))
      obtain ⟨r0, r1, r2, r3, r4, r5⟩ := hb9.get
      have G9 : Hid (w.grownBy W9 none) := grown_new hg hg9 (by omega)
      obtain ⟨g, hgg⟩ : ∃ g, byC E row (s : Int) = g := ⟨_, rfl⟩
      rw [hgg] at q0 q1 q2 q3 q4 q5 hW9 r0 r1 r2 r3 r4 r5 ⊢
      clear h0 h1 h1' h2 hg hg9 hb9
      go_wp2_with fail
      rw [← hW9]
      exact bodyPost_ret (v := rV g) (by simp [results, Try.results39, go_sem, r0, r1, r2, r3, r4, r5]) rfl ⟨rfl, G9.out⟩

end Go.Proofs.Ytcgkflddipflbaa
