/- The program's holds, at every tree. -/
import Derived.Test.YtaommgnlnfhbfaaLFind
namespace Go.Proofs.Ytaommgnlnfhbfaa
open Go.RowKit
set_option linter.unusedVariables false
set_option linter.unusedSimpArgs false

set_option maxHeartbeats 1600000 in
theorem holds_some (l r : TrL) (se : Bool) (x y : Int) (ih : DoesT l) (ok : Nat → Prop) (W : World) (g : Nat) (lv rv : Value) (aw av : Option Addr) (cw cv : Nat) (ws vs : List Nat) (ts : List Bool) (hb : W.heap[g]? = some (.cells #[.int .i64 ((3 : Nat) : Int), lv, rv, .bool se, .int .i64 x, .int .i64 y] 58 (0, 0))) (ht : TreeL ok W lv l) (hwl : WellT l (ts ++ [se])) (hl : ws.length ≤ 6) (h2 : ∀ x ∈ ws, x < 2) (hw : RowW W aw ws) (hv : RowI W av vs) (h0 : (vs = [] → av = none ∧ cv = 0) ∧ vs.length ≤ cv) (hf : FitL ws.length ts vs) (hl2 : vs.length ≤ 2) :
    Calls Try.prog 14 #[.pointer (some ⟨g, 0, none⟩), .slice aw ws.length cw, .slice av vs.length cv] W fun e w' => e = .returned (.bool (holdT ws (.node 3 l r se x y) vs)) ∧ W.grownBy w' none := by
  obtain ⟨c0, _, _, _, _, _⟩ := node_cells hb
  have H : Hid (Calls Try.prog 22 #[.pointer (some ⟨g, 0, none⟩), .slice aw ws.length cw, .slice av vs.length cv] W fun e w' => e = .returned (.bool ((List.range (manyL se ws.length)).any fun v => holdT ws l (vs ++ [v]))) ∧ W.grownBy w' none) := finds_any l r se x y ih ok W g lv rv aw av cw cv ws vs ts hb ht hwl hl h2 hw hv h0 hf hl2
  have HR : holdT ws (.node 3 l r se x y) vs = (List.range (manyL se ws.length)).any fun v => holdT ws l (vs ++ [v]) := rfl
  rw [HR]
  generalize ((List.range (manyL se ws.length)).any fun v => holdT ws l (vs ++ [v])) = b at *
  clear hb ht hw hv h0 hf HR ih
  go_enter Try.func14, Try.ntmps14
  go_wp2_with fail
  refine H.out.mono ?_
  rintro e w2 ⟨rfl, hg⟩
  have G : Hid (W.grownBy w2 none) := hg
  clear hg
  go_wp2_with fail
  go_ret
  exact ⟨rfl, G.out⟩

theorem doesT_all : ∀ t, DoesT t := by
  intro t
  induction t with
  | nil => intro ok W v aw av cw cv ws vs ts ht hw; exact hw.elim
  | node k l r se x y ihl ihr =>
    intro ok W v aw av cw cv ws vs ts ht hwt hl h2 hw hv h0 hf
    cases ht with
    | node g _ _ _ _ _ _ lv rv hok hb htl htr =>
      rcases hwt with ⟨hk, h3, h4⟩ | ⟨rfl, h3⟩ | ⟨rfl, hn, h3⟩ | ⟨hk, a, rfl, h3⟩ | ⟨hk, a, b, rfl, rfl, h3, h4⟩ | ⟨rfl, a, b, rfl, rfl, h3, h4⟩
      · exact holds_two k hk l r se x y ihl ihr ok W g lv rv aw av cw cv ws vs ts hb htl htr h3 h4 hl h2 hw hv h0 hf
      · exact holds_not l r se x y ihl ok W g lv rv aw av cw cv ws vs ts hb htl h3 hl h2 hw hv h0 hf
      · exact holds_some l r se x y ihl ok W g lv rv aw av cw cv ws vs ts hb htl h3 hl h2 hw hv h0 hf (by rw [← hf.len]; exact hn)
      · exact holds_letter W g k a l r se y lv rv aw av cw cv ws vs ts hk h3 hb hw hv hf
      · exact holds_rel W g k a b l r se lv rv aw av cw cv ws vs ts hk h3 h4 hl hb hv hf
      · exact holds_inn W g a b l r se lv rv aw av cw cv ws vs ts h3 h4 hl hb hv hf

end Go.Proofs.Ytaommgnlnfhbfaa
