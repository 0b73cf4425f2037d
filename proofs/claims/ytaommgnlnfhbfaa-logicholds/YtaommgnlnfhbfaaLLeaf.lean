/- The program's holds, at an atom. -/
import Derived.Test.YtaommgnlnfhbfaaLTree
namespace Go.Proofs.Ytaommgnlnfhbfaa
open Go.RowKit
set_option linter.unusedVariables false
set_option linter.unusedSimpArgs false

/-- A row of numbers. -/
def RowI (W : World) (a : Option Addr) (vs : List Nat) : Prop := vs = [] ∨ ∃ g, a = some ⟨g, 0, none⟩ ∧ ∀ k, k < vs.length → W.cell? ⟨g, k, none⟩ = some (.int .i64 ((vs.getD k 0 : Nat) : Int))
theorem RowI.kept {W W' : World} {a : Option Addr} {vs : List Nat} (h : RowI W a vs) (hg : W.grownBy W' none) : RowI W' a vs := by
  rcases h with h | ⟨g, h1, h2⟩
  · exact .inl h
  · exact .inr ⟨g, h1, fun k hk => hg.cell (h2 k hk) (by simp)⟩
/-- A word, at whatever place of a block. -/
def RowW (W : World) (a : Option Addr) (vs : List Nat) : Prop := vs = [] ∨ ∃ g o, a = some ⟨g, o, none⟩ ∧ ∀ k, k < vs.length → W.cell? ⟨g, o + k, none⟩ = some (.int .i64 ((vs.getD k 0 : Nat) : Int))
theorem RowW.kept {W W' : World} {a : Option Addr} {vs : List Nat} (h : RowW W a vs) (hg : W.grownBy W' none) : RowW W' a vs := by
  rcases h with h | ⟨g, o, h1, h2⟩
  · exact .inl h
  · exact .inr ⟨g, o, h1, fun k hk => hg.cell (h2 k hk) (by simp)⟩
/-- The variables around are right for a word of so many letters. -/
structure FitL (n : Nat) (ts : List Bool) (vs : List Nat) : Prop where
  len : ts.length = vs.length
  few : vs.length ≤ 3
  place : ∀ k, ts[k]? = some false → vs.getD k 0 < n
  set : ∀ k, ts[k]? = some true → vs.getD k 0 < 2 ^ n
theorem FitL.lt {n : Nat} {ts : List Bool} {vs : List Nat} (h : FitL n ts vs) {k : Nat} {b : Bool} (hk : ts[k]? = some b) : k < vs.length := by
  have := (List.getElem?_eq_some_iff.1 hk).1
  rw [← h.len]; exact this
theorem node_cells {W : World} {g k : Nat} {lv rv : Value} {se : Bool} {x y : Int} (hb : W.heap[g]? = some (.cells #[.int .i64 k, lv, rv, .bool se, .int .i64 x, .int .i64 y] 58 (0, 0))) :
    W.cell? ⟨g, 0, none⟩ = some (.int .i64 k) ∧ W.cell? ⟨g, 1, none⟩ = some lv ∧ W.cell? ⟨g, 2, none⟩ = some rv ∧ W.cell? ⟨g, 3, none⟩ = some (.bool se) ∧ W.cell? ⟨g, 4, none⟩ = some (.int .i64 x) ∧ W.cell? ⟨g, 5, none⟩ = some (.int .i64 y) :=
  ⟨by rw [cell_of_row W g 0 _ _ (0, 0) hb]; rfl, by rw [cell_of_row W g 1 _ _ (0, 0) hb]; rfl, by rw [cell_of_row W g 2 _ _ (0, 0) hb]; rfl, by rw [cell_of_row W g 3 _ _ (0, 0) hb]; rfl, by rw [cell_of_row W g 4 _ _ (0, 0) hb]; rfl, by rw [cell_of_row W g 5 _ _ (0, 0) hb]; rfl⟩

set_option maxHeartbeats 1600000 in
theorem holds_letter (W : World) (g k n : Nat) (l r : TrL) (se : Bool) (y : Int) (lv rv : Value) (aw av : Option Addr) (cw cv : Nat) (ws vs : List Nat) (ts : List Bool) (hk : k = 4 ∨ k = 5) (hn : ts[n]? = some false) (hb : W.heap[g]? = some (.cells #[.int .i64 k, lv, rv, .bool se, .int .i64 (n : Int), .int .i64 y] 58 (0, 0))) (hw : RowW W aw ws) (hv : RowI W av vs) (hf : FitL ws.length ts vs) :
    Calls Try.prog 14 #[.pointer (some ⟨g, 0, none⟩), .slice aw ws.length cw, .slice av vs.length cv] W fun e w' => e = .returned (.bool (holdT ws (.node k l r se n y) vs)) ∧ W.grownBy w' none := by
  obtain ⟨c0, _, _, _, c4, _⟩ := node_cells hb
  have hnl := hf.lt hn
  have hp := hf.place n hn
  rcases hv with hv | ⟨gv, rfl, hvc⟩
  · rw [hv] at hnl; simp at hnl
  · have v0 := hvc n hnl
    obtain ⟨p, hpe⟩ : ∃ p, vs.getD n 0 = p := ⟨_, rfl⟩
    rw [hpe] at v0 hp
    rcases hw with hw | ⟨gw, ow, rfl, hwc⟩
    · rw [hw] at hp; simp at hp
    · have w0 := hwc p hp
      obtain ⟨u, hue⟩ : ∃ u, ws.getD p 0 = u := ⟨_, rfl⟩
      rw [hue] at w0
      have HR : Hid (holdT ws (.node k l r se n y) vs = (u == k - 4)) := by
        show holdT ws (.node k l r se n y) vs = (u == k - 4)
        rcases hk with rfl | rfl <;> simp only [holdT, Int.toNat_natCast, hpe, hue] <;> rfl
      have i1 : (n : Int) < (vs.length : Int) := by omega
      have i2 : (p : Int) < (ws.length : Int) := by omega
      clear hvc hwc hb hf hn
      rw [HR.out]
      clear HR
      rcases hk with rfl | rfl
      all_goals
        go_enter Try.func14, Try.ntmps14
        go_wp2
        go_ret
        exact ⟨ret_bool (by rw [Bool.eq_iff_iff]; simp <;> omega), grown_refl _ _⟩

/-- What two places say of one another. -/
def relT (k p q : Nat) : Bool := if k = 6 then decide (p < q) else if k = 7 then p == q else if k = 8 then p + 1 == q else q / 2 ^ p % 2 == 1
set_option maxHeartbeats 3200000 in
theorem holds_rel (W : World) (g k n m : Nat) (l r : TrL) (se : Bool) (lv rv : Value) (aw av : Option Addr) (cw cv : Nat) (ws vs : List Nat) (ts : List Bool) (hk : k = 6 ∨ k = 7 ∨ k = 8) (hn : ts[n]? = some false) (hm : ts[m]? = some false) (hl : ws.length ≤ 6) (hb : W.heap[g]? = some (.cells #[.int .i64 k, lv, rv, .bool se, .int .i64 (n : Int), .int .i64 (m : Int)] 58 (0, 0))) (hv : RowI W av vs) (hf : FitL ws.length ts vs) :
    Calls Try.prog 14 #[.pointer (some ⟨g, 0, none⟩), .slice aw ws.length cw, .slice av vs.length cv] W fun e w' => e = .returned (.bool (holdT ws (.node k l r se n m) vs)) ∧ W.grownBy w' none := by
  obtain ⟨c0, _, _, _, c4, c5⟩ := node_cells hb
  have hnl := hf.lt hn
  have hml := hf.lt hm
  have hp := hf.place n hn
  have hq := hf.place m hm
  rcases hv with hv | ⟨gv, rfl, hvc⟩
  · rw [hv] at hnl; simp at hnl
  · have v0 := hvc n hnl
    have v1 := hvc m hml
    obtain ⟨p, hpe⟩ : ∃ p, vs.getD n 0 = p := ⟨_, rfl⟩
    obtain ⟨q, hqe⟩ : ∃ q, vs.getD m 0 = q := ⟨_, rfl⟩
    rw [hpe] at v0 hp
    rw [hqe] at v1 hq
    have HR : Hid (holdT ws (.node k l r se n m) vs = relT k p q) := by
      show holdT ws (.node k l r se n m) vs = relT k p q
      rcases hk with rfl | rfl | rfl <;> simp only [holdT, Int.toNat_natCast, hpe, hqe, relT] <;> rfl
    have i1 : (n : Int) < (vs.length : Int) := by omega
    have i2 : (m : Int) < (vs.length : Int) := by omega
    have i3 : p ≤ 6 := by omega
    have i4 : q ≤ 6 := by omega
    clear hvc hb hf hn hm
    rw [HR.out]
    clear HR
    rcases hk with rfl | rfl | rfl
    all_goals
      go_enter Try.func14, Try.ntmps14
      go_wp2
      go_region
      all_goals
        go_wp2
        go_ret
        exact ⟨ret_bool (by rw [Bool.eq_iff_iff]; simp [relT] <;> omega), by first | exact grown_refl _ _ | exact grown_drew (grown_refl _ _)⟩

theorem land_small : ∀ x : Nat, x < 64 → (bits BinOp.and IntKind.i64 (x : Int) 1 == 1) = (x % 2 == 1) := by decide +kernel
theorem land_shr (q p : Nat) (hq : q < 64) : (bits BinOp.and IntKind.i64 ((q : Int) / 2 ^ p) 1 == 1) = (q / 2 ^ p % 2 == 1) := by
  have e : (q : Int) / 2 ^ p = ((q / 2 ^ p : Nat) : Int) := by rw [Int.natCast_ediv]; norm_cast
  rw [e]
  exact land_small _ (Nat.lt_of_le_of_lt (Nat.div_le_self _ _) hq)
set_option maxHeartbeats 3200000 in
theorem holds_inn (W : World) (g n m : Nat) (l r : TrL) (se : Bool) (lv rv : Value) (aw av : Option Addr) (cw cv : Nat) (ws vs : List Nat) (ts : List Bool) (hn : ts[n]? = some false) (hm : ts[m]? = some true) (hl : ws.length ≤ 6) (hb : W.heap[g]? = some (.cells #[.int .i64 9, lv, rv, .bool se, .int .i64 (n : Int), .int .i64 (m : Int)] 58 (0, 0))) (hv : RowI W av vs) (hf : FitL ws.length ts vs) :
    Calls Try.prog 14 #[.pointer (some ⟨g, 0, none⟩), .slice aw ws.length cw, .slice av vs.length cv] W fun e w' => e = .returned (.bool (holdT ws (.node 9 l r se n m) vs)) ∧ W.grownBy w' none := by
  have hb' : W.heap[g]? = some (.cells #[.int .i64 ((9 : Nat) : Int), lv, rv, .bool se, .int .i64 (n : Int), .int .i64 (m : Int)] 58 (0, 0)) := hb
  obtain ⟨c0, _, _, _, c4, c5⟩ := node_cells hb'
  have hnl := hf.lt hn
  have hml := hf.lt hm
  have hp := hf.place n hn
  have hq := hf.set m hm
  have h64 : 2 ^ ws.length ≤ 2 ^ 6 := Nat.pow_le_pow_right (by omega) hl
  rcases hv with hv | ⟨gv, rfl, hvc⟩
  · rw [hv] at hnl; simp at hnl
  · have v0 := hvc n hnl
    have v1 := hvc m hml
    obtain ⟨p, hpe⟩ : ∃ p, vs.getD n 0 = p := ⟨_, rfl⟩
    obtain ⟨q, hqe⟩ : ∃ q, vs.getD m 0 = q := ⟨_, rfl⟩
    rw [hpe] at v0 hp
    rw [hqe] at v1 hq
    have HR : Hid (holdT ws (.node 9 l r se n m) vs = (q / 2 ^ p % 2 == 1)) := by
      show holdT ws (.node 9 l r se n m) vs = (q / 2 ^ p % 2 == 1)
      simp only [holdT, Int.toNat_natCast, hpe, hqe]; rfl
    have i1 : (n : Int) < (vs.length : Int) := by omega
    have i2 : (m : Int) < (vs.length : Int) := by omega
    have i3 : p ≤ 6 := by omega
    have i4 : q < 64 := by omega
    clear hvc hb hf hn hm hq hp h64 hb'
    rw [HR.out]
    clear HR
    go_enter Try.func14, Try.ntmps14
    go_wp2
    go_region
    all_goals
      go_wp2
      go_ret
      exact ⟨ret_bool (land_shr q p i4), grown_drew (grown_refl _ _)⟩

end Go.Proofs.Ytaommgnlnfhbfaa
