/- The reference's Holds, at not, and, or: given that it does what it should for what they are made of. -/
import Derived.Test.YtaommgnlnfhbfaaVLeaf
namespace Go.Proofs.Ytaommgnlnfhbfaa
open Go.RowKit
set_option linter.unusedVariables false
set_option linter.unusedSimpArgs false

/-- The reference tells whether a formula is true of a word. -/
def DoesV (f : Lf) : Prop := ∀ (W : World) (g cap j : Nat) (ns : List NdJ) (aw av : Option Addr) (cw cv : Nat) (ws vs : List Nat) (ts : List Bool), ListV W g ns → MeansJ ns f j → ns.length ≤ 31 → WellL f ts → ws.length ≤ 6 → RowW W aw ws → RowI W av vs → (vs = [] → av = none ∧ cv = 0) → FitL ws.length ts vs →
  Calls Try.prog 9 #[.slice (some ⟨g, 0, none⟩) ns.length cap, .int .i64 (j : Int), .slice aw ws.length cw, .slice av vs.length cv] W fun e w' => e = .returned (.bool (holdL ws f vs)) ∧ W.grownBy w' none

theorem boxV {W W' : World} {v0 v1 v2 v3 v4 : Value} {t : TypeId} (h : (W.alloc (.cells #[v0, v1, v2, v3, v4] t)).grownBy W' none) :
    W'.cell? ⟨W.heap.size, 0, none⟩ = some v0 ∧ W'.cell? ⟨W.heap.size, 1, none⟩ = some v1 ∧ W'.cell? ⟨W.heap.size, 2, none⟩ = some v2 ∧ W'.cell? ⟨W.heap.size, 3, none⟩ = some v3 ∧ W'.cell? ⟨W.heap.size, 4, none⟩ = some v4 := by
  have hb := heap_alloc_new W (.cells #[v0, v1, v2, v3, v4] t)
  have hc : ∀ k v, #[v0, v1, v2, v3, v4][k]? = some v → W'.cell? ⟨W.heap.size, k, none⟩ = some v := fun k v hv => h.cell (by rw [cell_of_row _ _ k _ _ (0, 0) hb]; exact hv) (by simp)
  exact ⟨hc 0 _ rfl, hc 1 _ rfl, hc 2 _ rfl, hc 3 _ rfl, hc 4 _ rfl⟩

set_option maxHeartbeats 1600000 in
set_option maxRecDepth 100000 in
theorem holdsV_not (f : Lf) (ih : DoesV f) : DoesV (.not f) := by
  intro W g cap j ns aw av cw cv ws vs ts hL hM hln hwl hl hw hv h0 hf
  obtain ⟨i, hj, hM2⟩ := hM
  obtain ⟨c0, c1, c2, c3, c4⟩ := hL j _ hj
  have hjl : j < ns.length := (List.getElem?_eq_some_iff.1 hj).1
  have i0 : (j : Int) < (ns.length : Int) := by omega
  simp only at c0 c1 c2 c3 c4
  have H : Hid (∀ W', W.grownBy W' none → Calls Try.prog 9 #[.slice (some ⟨g, 0, none⟩) ns.length cap, .int .i64 (i : Int), .slice aw ws.length cw, .slice av vs.length cv] W' fun e w' => e = .returned (.bool (holdL ws f vs)) ∧ W'.grownBy w' none) := fun W' hW => ih W' g cap i ns aw av cw cv ws vs ts (hL.kept hW) hM2 hln hwl hl (hw.kept hW) (hv.kept hW) h0 hf
  have G : Hid (∀ o, W.grownBy (W.alloc o) none) := fun o => grown_alloc _ _
  have HR : holdL ws (.not f) vs = !holdL ws f vs := rfl
  rw [HR]
  generalize holdL ws f vs = b at *
  clear hL hj hM2 hw hv h0 hf HR hwl
  go_enter Try.func9, Try.ntmps9
  go_wp2_with fail
  refine (H.out _ (G.out _)).mono ?_
  rintro e w2 ⟨rfl, hg2⟩
  have G2 : Hid (W.grownBy w2 none) := grown_trans (G.out _) hg2
  clear hg2
  go_wp2_with fail
  go_ret
  exact ⟨rfl, G2.out⟩

set_option maxHeartbeats 1600000 in
set_option maxRecDepth 100000 in
theorem holdsV_and (f1 f2 : Lf) (ih1 : DoesV f1) (ih2 : DoesV f2) : DoesV (.and f1 f2) := by
  intro W g cap j ns aw av cw cv ws vs ts hL hM hln hwl hl hw hv h0 hf
  obtain ⟨i, k, hj, hM2, hM3⟩ := hM
  obtain ⟨c0, c1, c2, c3, c4⟩ := hL j _ hj
  have hjl : j < ns.length := (List.getElem?_eq_some_iff.1 hj).1
  have i0 : (j : Int) < (ns.length : Int) := by omega
  simp only at c0 c1 c2 c3 c4
  have H1 : Hid (∀ W', W.grownBy W' none → Calls Try.prog 9 #[.slice (some ⟨g, 0, none⟩) ns.length cap, .int .i64 (i : Int), .slice aw ws.length cw, .slice av vs.length cv] W' fun e w' => e = .returned (.bool (holdL ws f1 vs)) ∧ W'.grownBy w' none) := fun W' hW => ih1 W' g cap i ns aw av cw cv ws vs ts (hL.kept hW) hM2 hln hwl.1 hl (hw.kept hW) (hv.kept hW) h0 hf
  have H2 : Hid (∀ W', W.grownBy W' none → Calls Try.prog 9 #[.slice (some ⟨g, 0, none⟩) ns.length cap, .int .i64 (k : Int), .slice aw ws.length cw, .slice av vs.length cv] W' fun e w' => e = .returned (.bool (holdL ws f2 vs)) ∧ W'.grownBy w' none) := fun W' hW => ih2 W' g cap k ns aw av cw cv ws vs ts (hL.kept hW) hM3 hln hwl.2 hl (hw.kept hW) (hv.kept hW) h0 hf
  have HR : holdL ws (.and f1 f2) vs = (holdL ws f1 vs && holdL ws f2 vs) := rfl
  rw [HR]
  generalize holdL ws f1 vs = b1 at *
  generalize holdL ws f2 vs = b2 at *
  have G : Hid (W.grownBy (W.alloc (.cells #[.int .i64 6, .int .i64 0, .int .i64 (i : Int), .int .i64 (k : Int), .bool false] 46)) none) := grown_alloc _ _
  have HB : Hid (∀ W', (W.alloc (.cells #[.int .i64 6, .int .i64 0, .int .i64 (i : Int), .int .i64 (k : Int), .bool false] 46)).grownBy W' none → W'.cell? ⟨W.heap.size, 3, none⟩ = some (.int .i64 (k : Int))) := fun W' h => (boxV h).2.2.2.1
  clear hL hj hM2 hM3 hw hv h0 hf HR hwl
  go_enter Try.func9, Try.ntmps9
  go_wp2_with fail
  refine (H1.out _ G.out).mono ?_
  rintro e w2 ⟨rfl, hg2⟩
  have G2 : Hid (W.grownBy w2 none) := grown_trans G.out hg2
  have d3 := HB.out _ hg2
  clear hg2
  go_wp2_with fail
  refine (H2.out _ G2.out).mono ?_
  rintro e w3 ⟨rfl, hg3⟩
  have G3 : Hid (W.grownBy w3 none) := grown_trans G2.out hg3
  clear hg3
  cases b1 <;> cases b2
  all_goals
    go_wp2_with fail
    go_ret
    exact ⟨rfl, G3.out⟩

set_option maxHeartbeats 1600000 in
set_option maxRecDepth 100000 in
theorem holdsV_or (f1 f2 : Lf) (ih1 : DoesV f1) (ih2 : DoesV f2) : DoesV (.or f1 f2) := by
  intro W g cap j ns aw av cw cv ws vs ts hL hM hln hwl hl hw hv h0 hf
  obtain ⟨i, k, hj, hM2, hM3⟩ := hM
  obtain ⟨c0, c1, c2, c3, c4⟩ := hL j _ hj
  have hjl : j < ns.length := (List.getElem?_eq_some_iff.1 hj).1
  have i0 : (j : Int) < (ns.length : Int) := by omega
  simp only at c0 c1 c2 c3 c4
  have H1 : Hid (∀ W', W.grownBy W' none → Calls Try.prog 9 #[.slice (some ⟨g, 0, none⟩) ns.length cap, .int .i64 (i : Int), .slice aw ws.length cw, .slice av vs.length cv] W' fun e w' => e = .returned (.bool (holdL ws f1 vs)) ∧ W'.grownBy w' none) := fun W' hW => ih1 W' g cap i ns aw av cw cv ws vs ts (hL.kept hW) hM2 hln hwl.1 hl (hw.kept hW) (hv.kept hW) h0 hf
  have H2 : Hid (∀ W', W.grownBy W' none → Calls Try.prog 9 #[.slice (some ⟨g, 0, none⟩) ns.length cap, .int .i64 (k : Int), .slice aw ws.length cw, .slice av vs.length cv] W' fun e w' => e = .returned (.bool (holdL ws f2 vs)) ∧ W'.grownBy w' none) := fun W' hW => ih2 W' g cap k ns aw av cw cv ws vs ts (hL.kept hW) hM3 hln hwl.2 hl (hw.kept hW) (hv.kept hW) h0 hf
  have HR : holdL ws (.or f1 f2) vs = (holdL ws f1 vs || holdL ws f2 vs) := rfl
  rw [HR]
  generalize holdL ws f1 vs = b1 at *
  generalize holdL ws f2 vs = b2 at *
  have G : Hid (W.grownBy (W.alloc (.cells #[.int .i64 7, .int .i64 0, .int .i64 (i : Int), .int .i64 (k : Int), .bool false] 46)) none) := grown_alloc _ _
  have HB : Hid (∀ W', (W.alloc (.cells #[.int .i64 7, .int .i64 0, .int .i64 (i : Int), .int .i64 (k : Int), .bool false] 46)).grownBy W' none → W'.cell? ⟨W.heap.size, 3, none⟩ = some (.int .i64 (k : Int))) := fun W' h => (boxV h).2.2.2.1
  clear hL hj hM2 hM3 hw hv h0 hf HR hwl
  go_enter Try.func9, Try.ntmps9
  go_wp2_with fail
  refine (H1.out _ G.out).mono ?_
  rintro e w2 ⟨rfl, hg2⟩
  have G2 : Hid (W.grownBy w2 none) := grown_trans G.out hg2
  have d3 := HB.out _ hg2
  clear hg2
  go_wp2_with fail
  refine (H2.out _ G2.out).mono ?_
  rintro e w3 ⟨rfl, hg3⟩
  have G3 : Hid (W.grownBy w3 none) := grown_trans G2.out hg3
  clear hg3
  cases b1 <;> cases b2
  all_goals
    go_wp2_with fail
    go_ret
    exact ⟨rfl, G3.out⟩

end Go.Proofs.Ytaommgnlnfhbfaa
