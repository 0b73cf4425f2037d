/- The program's holds, at not, and, or: given that it does what it should for what they are made of. -/
import Derived.Test.YtaommgnlnfhbfaaLLeaf
namespace Go.Proofs.Ytaommgnlnfhbfaa
open Go.RowKit
set_option linter.unusedVariables false
set_option linter.unusedSimpArgs false

/-- The program tells whether a tree is true of a word. -/
def DoesT (t : TrL) : Prop := ∀ (ok : Nat → Prop) (W : World) (v : Value) (aw av : Option Addr) (cw cv : Nat) (ws vs : List Nat) (ts : List Bool), TreeL ok W v t → WellT t ts → ws.length ≤ 6 → (∀ x ∈ ws, x < 2) → RowW W aw ws → RowI W av vs → ((vs = [] → av = none ∧ cv = 0) ∧ vs.length ≤ cv) → FitL ws.length ts vs →
  Calls Try.prog 14 #[v, .slice aw ws.length cw, .slice av vs.length cv] W fun e w' => e = .returned (.bool (holdT ws t vs)) ∧ W.grownBy w' none
theorem TreeL.idle {ok : Nat → Prop} {w w' : World} {v : Value} {t : TrL} (h : TreeL ok w v t) (hg : w.grownBy w' none) : TreeL ok w' v t := h.kept fun g hk hl => ⟨hk, hg.block g hl (by simp)⟩

theorem holds_not (l r : TrL) (se : Bool) (x y : Int) (ih : DoesT l) (ok : Nat → Prop) (W : World) (g : Nat) (lv rv : Value) (aw av : Option Addr) (cw cv : Nat) (ws vs : List Nat) (ts : List Bool) (hb : W.heap[g]? = some (.cells #[.int .i64 ((2 : Nat) : Int), lv, rv, .bool se, .int .i64 x, .int .i64 y] 58 (0, 0))) (ht : TreeL ok W lv l) (hwl : WellT l ts) (hl : ws.length ≤ 6) (h2 : ∀ x ∈ ws, x < 2) (hw : RowW W aw ws) (hv : RowI W av vs) (h0 : (vs = [] → av = none ∧ cv = 0) ∧ vs.length ≤ cv) (hf : FitL ws.length ts vs) :
    Calls Try.prog 14 #[.pointer (some ⟨g, 0, none⟩), .slice aw ws.length cw, .slice av vs.length cv] W fun e w' => e = .returned (.bool (holdT ws (.node 2 l r se x y) vs)) ∧ W.grownBy w' none := by
  obtain ⟨c0, c1, _, _, _, _⟩ := node_cells hb
  have H : Hid (Calls Try.prog 14 #[lv, .slice aw ws.length cw, .slice av vs.length cv] W fun e w' => e = .returned (.bool (holdT ws l vs)) ∧ W.grownBy w' none) := ih ok W lv aw av cw cv ws vs ts ht hwl hl h2 hw hv h0 hf
  have HR : holdT ws (.node 2 l r se x y) vs = !holdT ws l vs := rfl
  rw [HR]
  obtain ⟨a, rfl⟩ := ht.form
  generalize holdT ws l vs = b at *
  clear hb ht hw hv h0 hf HR ih
  go_enter Try.func14, Try.ntmps14
  go_wp2_with fail
  refine H.out.mono ?_
  rintro e w2 ⟨rfl, hg⟩
  have G : Hid (W.grownBy w2 none) := hg
  clear hg
  go_wp2_with fail
  go_ret
  exact ⟨rfl, G.out⟩

theorem holds_two (k : Nat) (hk : k = 0 ∨ k = 1) (l r : TrL) (se : Bool) (x y : Int) (ihl : DoesT l) (ihr : DoesT r) (ok : Nat → Prop) (W : World) (g : Nat) (lv rv : Value) (aw av : Option Addr) (cw cv : Nat) (ws vs : List Nat) (ts : List Bool) (hb : W.heap[g]? = some (.cells #[.int .i64 k, lv, rv, .bool se, .int .i64 x, .int .i64 y] 58 (0, 0))) (htl : TreeL ok W lv l) (htr : TreeL ok W rv r) (hwl : WellT l ts) (hwr : WellT r ts) (hl : ws.length ≤ 6) (h2 : ∀ x ∈ ws, x < 2) (hw : RowW W aw ws) (hv : RowI W av vs) (h0 : (vs = [] → av = none ∧ cv = 0) ∧ vs.length ≤ cv) (hf : FitL ws.length ts vs) :
    Calls Try.prog 14 #[.pointer (some ⟨g, 0, none⟩), .slice aw ws.length cw, .slice av vs.length cv] W fun e w' => e = .returned (.bool (holdT ws (.node k l r se x y) vs)) ∧ W.grownBy w' none := by
  obtain ⟨c0, c1, c2, _, _, _⟩ := node_cells hb
  have H1 : Hid (Calls Try.prog 14 #[lv, .slice aw ws.length cw, .slice av vs.length cv] W fun e w' => e = .returned (.bool (holdT ws l vs)) ∧ W.grownBy w' none) := ihl ok W lv aw av cw cv ws vs ts htl hwl hl h2 hw hv h0 hf
  have H2 : Hid (∀ W', W.grownBy W' none → Calls Try.prog 14 #[rv, .slice aw ws.length cw, .slice av vs.length cv] W' fun e w' => e = .returned (.bool (holdT ws r vs)) ∧ W'.grownBy w' none) := fun W' hg => ihr ok W' rv aw av cw cv ws vs ts (htr.idle hg) hwr hl h2 (hw.kept hg) (hv.kept hg) h0 hf
  have HC : Hid (∀ w2, W.grownBy w2 none → w2.cell? ⟨g, 2, none⟩ = some rv) := fun w2 hg => hg.cell c2 (by simp)
  have HR : holdT ws (.node k l r se x y) vs = if k = 0 then (holdT ws l vs || holdT ws r vs) else (holdT ws l vs && holdT ws r vs) := by rcases hk with rfl | rfl <;> rfl
  rw [HR]
  obtain ⟨a, rfl⟩ := htl.form
  obtain ⟨a2, rfl⟩ := htr.form
  generalize holdT ws l vs = b1 at *
  generalize holdT ws r vs = b2 at *
  clear hb htl htr hw hv h0 hf HR ihl ihr c2
  rcases hk with rfl | rfl <;> cases b1
  all_goals
    go_enter Try.func14, Try.ntmps14
    go_wp2_with fail
    refine H1.out.mono ?_
    rintro e w2 ⟨rfl, hg⟩
    have G : Hid (W.grownBy w2 none) := hg
    have d2 := HC.out _ hg
    clear hg
    go_wp2_with fail
    first
      | (go_ret; exact ⟨rfl, G.out⟩)
      | (refine (H2.out _ G.out).mono ?_
         rintro e w3 ⟨rfl, hg3⟩
         have G3 : Hid (W.grownBy w3 none) := grown_trans G.out hg3
         clear hg3
         go_wp2_with fail
         go_ret
         exact ⟨rfl, G3.out⟩)

end Go.Proofs.Ytaommgnlnfhbfaa
