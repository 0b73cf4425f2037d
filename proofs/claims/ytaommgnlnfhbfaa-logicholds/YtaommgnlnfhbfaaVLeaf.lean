/- The reference's Holds, at an atom. -/
import Derived.Test.YtaommgnlnfhbfaaVBase
namespace Go.Proofs.Ytaommgnlnfhbfaa
open Go.RowKit
set_option linter.unusedVariables false
set_option linter.unusedSimpArgs false

set_option maxHeartbeats 3200000 in
set_option maxRecDepth 100000 in
theorem holdsV_letter (W : World) (g cap j N a : Nat) (ns : List NdJ) (aw av : Option Addr) (cw cv : Nat) (ws vs : List Nat) (ts : List Bool) (hL : ListV W g ns) (hj : ns[j]? = some ⟨0, (N : Int), (a : Int), 0, false⟩) (hln : ns.length ≤ 31) (hn : ts[a]? = some false) (hw : RowW W aw ws) (hv : RowI W av vs) (hf : FitL ws.length ts vs) (hl : ws.length ≤ 6) :
    Calls Try.prog 9 #[.slice (some ⟨g, 0, none⟩) ns.length cap, .int .i64 (j : Int), .slice aw ws.length cw, .slice av vs.length cv] W fun e w' => e = .returned (.bool (holdL ws (.letter N a) vs)) ∧ W.grownBy w' none := by
  obtain ⟨c0, c1, c2, c3, c4⟩ := hL j _ hj
  have hjl : j < ns.length := (List.getElem?_eq_some_iff.1 hj).1
  have i0 : (j : Int) < (ns.length : Int) := by omega
  have hfew := hf.few
  simp only at c0 c1 c2 c3 c4
  have G : Hid (∀ o, W.grownBy (W.alloc o) none) := fun o => grown_alloc _ _
  have hnl := hf.lt hn
  have hp := hf.place a hn
  rcases hv with hv | ⟨gv, rfl, hvc⟩
  · rw [hv] at hnl; simp at hnl
  · have v0 := fun o => (G.out o).cell (hvc a hnl) (by simp)
    obtain ⟨p, hpe⟩ : ∃ p, vs.getD a 0 = p := ⟨_, rfl⟩
    rw [hpe] at v0 hp
    rcases hw with hw | ⟨gw, ow, rfl, hwc⟩
    · rw [hw] at hp; simp at hp
    · have w0 := fun o => (G.out o).cell (hwc p hp) (by simp)
      obtain ⟨u, hue⟩ : ∃ u, ws.getD p 0 = u := ⟨_, rfl⟩
      rw [hue] at w0
      have HR : Hid (holdL ws (.letter N a) vs = (u == N)) := by
        show holdL ws (.letter N a) vs = (u == N)
        simp only [holdL, hpe, hue]
      have i1 : (a : Int) < (vs.length : Int) := by omega
      have i2 : (p : Int) < (ws.length : Int) := by omega
      clear hvc hwc hf hn hL hj
      rw [HR.out]
      clear HR
      go_enter Try.func9, Try.ntmps9
      go_wp2_with fail
      go_quiet (fail)
      go_wp2_with fail
      go_ret
      exact ⟨ret_bool (by rw [Bool.eq_iff_iff]; simp <;> omega), grown_drewN (G.out _) _⟩

set_option maxHeartbeats 3200000 in
set_option maxRecDepth 100000 in
theorem holdsV_lt (W : World) (g cap j a b : Nat) (ns : List NdJ) (aw av : Option Addr) (cw cv : Nat) (ws vs : List Nat) (ts : List Bool) (hL : ListV W g ns) (hj : ns[j]? = some ⟨1, 0, (a : Int), (b : Int), false⟩) (hln : ns.length ≤ 31) (hn : ts[a]? = some false) (hm : ts[b]? = some false) (hw : RowW W aw ws) (hv : RowI W av vs) (hf : FitL ws.length ts vs) (hl : ws.length ≤ 6) :
    Calls Try.prog 9 #[.slice (some ⟨g, 0, none⟩) ns.length cap, .int .i64 (j : Int), .slice aw ws.length cw, .slice av vs.length cv] W fun e w' => e = .returned (.bool (holdL ws (.lt a b) vs)) ∧ W.grownBy w' none := by
  obtain ⟨c0, c1, c2, c3, c4⟩ := hL j _ hj
  have hjl : j < ns.length := (List.getElem?_eq_some_iff.1 hj).1
  have i0 : (j : Int) < (ns.length : Int) := by omega
  have hfew := hf.few
  simp only at c0 c1 c2 c3 c4
  have G : Hid (∀ o, W.grownBy (W.alloc o) none) := fun o => grown_alloc _ _
  have hnl := hf.lt hn
  have hml := hf.lt hm
  have hp := hf.place a hn
  have hq := hf.place b hm
  rcases hv with hv | ⟨gv, rfl, hvc⟩
  · rw [hv] at hnl; simp at hnl
  · have v0 := fun o => (G.out o).cell (hvc a hnl) (by simp)
    have v1 := fun o => (G.out o).cell (hvc b hml) (by simp)
    obtain ⟨p, hpe⟩ : ∃ p, vs.getD a 0 = p := ⟨_, rfl⟩
    obtain ⟨q, hqe⟩ : ∃ q, vs.getD b 0 = q := ⟨_, rfl⟩
    rw [hpe] at v0 hp
    rw [hqe] at v1 hq
    have HR : Hid (holdL ws (.lt a b) vs = decide (p < q)) := by
      show holdL ws (.lt a b) vs = decide (p < q)
      simp only [holdL, hpe, hqe]
    have i1 : (a : Int) < (vs.length : Int) := by omega
    have i2 : (b : Int) < (vs.length : Int) := by omega
    clear hvc hf hn hm hL hj hw
    rw [HR.out]
    clear HR
    go_enter Try.func9, Try.ntmps9
    go_wp2_with fail
    go_quiet (fail)
    go_wp2_with fail
    go_ret
    exact ⟨ret_bool (by first | rfl | (rw [Bool.eq_iff_iff]; simp; done) | (rw [Bool.eq_iff_iff]; simp; omega)), grown_drewN (G.out _) _⟩

set_option maxHeartbeats 3200000 in
set_option maxRecDepth 100000 in
theorem holdsV_eq (W : World) (g cap j a b : Nat) (ns : List NdJ) (aw av : Option Addr) (cw cv : Nat) (ws vs : List Nat) (ts : List Bool) (hL : ListV W g ns) (hj : ns[j]? = some ⟨2, 0, (a : Int), (b : Int), false⟩) (hln : ns.length ≤ 31) (hn : ts[a]? = some false) (hm : ts[b]? = some false) (hw : RowW W aw ws) (hv : RowI W av vs) (hf : FitL ws.length ts vs) (hl : ws.length ≤ 6) :
    Calls Try.prog 9 #[.slice (some ⟨g, 0, none⟩) ns.length cap, .int .i64 (j : Int), .slice aw ws.length cw, .slice av vs.length cv] W fun e w' => e = .returned (.bool (holdL ws (.eq a b) vs)) ∧ W.grownBy w' none := by
  obtain ⟨c0, c1, c2, c3, c4⟩ := hL j _ hj
  have hjl : j < ns.length := (List.getElem?_eq_some_iff.1 hj).1
  have i0 : (j : Int) < (ns.length : Int) := by omega
  have hfew := hf.few
  simp only at c0 c1 c2 c3 c4
  have G : Hid (∀ o, W.grownBy (W.alloc o) none) := fun o => grown_alloc _ _
  have hnl := hf.lt hn
  have hml := hf.lt hm
  have hp := hf.place a hn
  have hq := hf.place b hm
  rcases hv with hv | ⟨gv, rfl, hvc⟩
  · rw [hv] at hnl; simp at hnl
  · have v0 := fun o => (G.out o).cell (hvc a hnl) (by simp)
    have v1 := fun o => (G.out o).cell (hvc b hml) (by simp)
    obtain ⟨p, hpe⟩ : ∃ p, vs.getD a 0 = p := ⟨_, rfl⟩
    obtain ⟨q, hqe⟩ : ∃ q, vs.getD b 0 = q := ⟨_, rfl⟩
    rw [hpe] at v0 hp
    rw [hqe] at v1 hq
    have HR : Hid (holdL ws (.eq a b) vs = (p == q)) := by
      show holdL ws (.eq a b) vs = (p == q)
      simp only [holdL, hpe, hqe]
    have i1 : (a : Int) < (vs.length : Int) := by omega
    have i2 : (b : Int) < (vs.length : Int) := by omega
    clear hvc hf hn hm hL hj hw
    rw [HR.out]
    clear HR
    go_enter Try.func9, Try.ntmps9
    go_wp2_with fail
    go_quiet (fail)
    go_wp2_with fail
    go_ret
    exact ⟨ret_bool (by first | rfl | (rw [Bool.eq_iff_iff]; simp; done) | (rw [Bool.eq_iff_iff]; simp; omega)), grown_drewN (G.out _) _⟩

set_option maxHeartbeats 3200000 in
set_option maxRecDepth 100000 in
theorem holdsV_nx (W : World) (g cap j a b : Nat) (ns : List NdJ) (aw av : Option Addr) (cw cv : Nat) (ws vs : List Nat) (ts : List Bool) (hL : ListV W g ns) (hj : ns[j]? = some ⟨3, 0, (a : Int), (b : Int), false⟩) (hln : ns.length ≤ 31) (hn : ts[a]? = some false) (hm : ts[b]? = some false) (hw : RowW W aw ws) (hv : RowI W av vs) (hf : FitL ws.length ts vs) (hl : ws.length ≤ 6) :
    Calls Try.prog 9 #[.slice (some ⟨g, 0, none⟩) ns.length cap, .int .i64 (j : Int), .slice aw ws.length cw, .slice av vs.length cv] W fun e w' => e = .returned (.bool (holdL ws (.nx a b) vs)) ∧ W.grownBy w' none := by
  obtain ⟨c0, c1, c2, c3, c4⟩ := hL j _ hj
  have hjl : j < ns.length := (List.getElem?_eq_some_iff.1 hj).1
  have i0 : (j : Int) < (ns.length : Int) := by omega
  have hfew := hf.few
  simp only at c0 c1 c2 c3 c4
  have G : Hid (∀ o, W.grownBy (W.alloc o) none) := fun o => grown_alloc _ _
  have hnl := hf.lt hn
  have hml := hf.lt hm
  have hp := hf.place a hn
  have hq := hf.place b hm
  rcases hv with hv | ⟨gv, rfl, hvc⟩
  · rw [hv] at hnl; simp at hnl
  · have v0 := fun o => (G.out o).cell (hvc a hnl) (by simp)
    have v1 := fun o => (G.out o).cell (hvc b hml) (by simp)
    obtain ⟨p, hpe⟩ : ∃ p, vs.getD a 0 = p := ⟨_, rfl⟩
    obtain ⟨q, hqe⟩ : ∃ q, vs.getD b 0 = q := ⟨_, rfl⟩
    rw [hpe] at v0 hp
    rw [hqe] at v1 hq
    have HR : Hid (holdL ws (.nx a b) vs = (p + 1 == q)) := by
      show holdL ws (.nx a b) vs = (p + 1 == q)
      simp only [holdL, hpe, hqe]
    have i1 : (a : Int) < (vs.length : Int) := by omega
    have i2 : (b : Int) < (vs.length : Int) := by omega
    clear hvc hf hn hm hL hj hw
    rw [HR.out]
    clear HR
    go_enter Try.func9, Try.ntmps9
    go_wp2_with fail
    go_quiet (fail)
    go_wp2_with fail
    go_ret
    exact ⟨ret_bool (by first | rfl | (rw [Bool.eq_iff_iff]; simp; done) | (rw [Bool.eq_iff_iff]; simp; omega)), grown_drewN (G.out _) _⟩

set_option maxHeartbeats 3200000 in
set_option maxRecDepth 100000 in
theorem holdsV_inn (W : World) (g cap j a b : Nat) (ns : List NdJ) (aw av : Option Addr) (cw cv : Nat) (ws vs : List Nat) (ts : List Bool) (hL : ListV W g ns) (hj : ns[j]? = some ⟨4, 0, (a : Int), (b : Int), false⟩) (hln : ns.length ≤ 31) (hn : ts[a]? = some false) (hm : ts[b]? = some true) (hw : RowW W aw ws) (hv : RowI W av vs) (hf : FitL ws.length ts vs) (hl : ws.length ≤ 6) :
    Calls Try.prog 9 #[.slice (some ⟨g, 0, none⟩) ns.length cap, .int .i64 (j : Int), .slice aw ws.length cw, .slice av vs.length cv] W fun e w' => e = .returned (.bool (holdL ws (.inn a b) vs)) ∧ W.grownBy w' none := by
  obtain ⟨c0, c1, c2, c3, c4⟩ := hL j _ hj
  have hjl : j < ns.length := (List.getElem?_eq_some_iff.1 hj).1
  have i0 : (j : Int) < (ns.length : Int) := by omega
  have hfew := hf.few
  simp only at c0 c1 c2 c3 c4
  have G : Hid (∀ o, W.grownBy (W.alloc o) none) := fun o => grown_alloc _ _
  have hnl := hf.lt hn
  have hml := hf.lt hm
  have hp := hf.place a hn
  have hq := hf.set b hm
  rcases hv with hv | ⟨gv, rfl, hvc⟩
  · rw [hv] at hnl; simp at hnl
  · have v0 := fun o => (G.out o).cell (hvc a hnl) (by simp)
    have v1 := fun o => (G.out o).cell (hvc b hml) (by simp)
    obtain ⟨p, hpe⟩ : ∃ p, vs.getD a 0 = p := ⟨_, rfl⟩
    obtain ⟨q, hqe⟩ : ∃ q, vs.getD b 0 = q := ⟨_, rfl⟩
    rw [hpe] at v0 hp
    rw [hqe] at v1 hq
    have HR : Hid (holdL ws (.inn a b) vs = (q / 2 ^ p % 2 == 1)) := by
      show holdL ws (.inn a b) vs = (q / 2 ^ p % 2 == 1)
      simp only [holdL, hpe, hqe]
    have i1 : (a : Int) < (vs.length : Int) := by omega
    have i2 : (b : Int) < (vs.length : Int) := by omega
    have h64 : 2 ^ ws.length ≤ 2 ^ 6 := Nat.pow_le_pow_right (by omega) hl
    have i3 : p ≤ 6 := by omega
    have i4 : q < 64 := by omega
    clear hq hp h64
    clear hvc hf hn hm hL hj hw
    rw [HR.out]
    clear HR
    go_enter Try.func9, Try.ntmps9
    go_wp2_with fail
    go_region
    all_goals
      go_wp2
      go_ret
      exact ⟨ret_bool (land_shr q p i4), grown_drew (G.out _)⟩

end Go.Proofs.Ytaommgnlnfhbfaa
