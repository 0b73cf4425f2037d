/- The walk of the law StackGoes, out of the contracts of what it calls. -/
import Derived.Test.YthnbiiipfcogeaaSgWayE
namespace Go.Proofs.Ythnbiiipfcogeaa
open Go.RowKit Go.Maps
set_option linter.unusedVariables false
set_option linter.unusedSimpArgs false

/-- Whether there is a way, as Way tells it. -/
def WTell (L : List Psh) (c gl : Cfg) (w : World) (e : Ending) (w' : World) : Prop :=
  ∃ (ar : Option Addr) (n cr : Nat) (can : Bool) (y : Int), e = .returned (.tuple #[.slice ar n cr, .bool can, .int .i64 y]) ∧ w.grownBy w' none ∧ (y = 0 → (can = true ↔ PthR (LeastD L gl.1.toNat gl.2) c.1.toNat c.2 (behC gl.1.toNat gl.2.length)))
theorem tow_fin {L : List Psh} {gN : Nat} {gz : List Int} {E : Edg} (hE : Top E) (hT : TowP L gN gz E) (hG : GoodSk L) {cN : Nat} (hc : cN < 6) (zs : List Int) {t : Nat} (ht : t < 6) : readC E cN zs t < 2002 ↔ PthR (LeastD L gN gz) cN zs t := by
  obtain ⟨hM, hC, hS, hg⟩ := hT
  refine (readC_fin hE hc zs ht).trans ⟨PthR.mono hS zs, PthR.mono (fun f s t h => ?_) zs⟩
  refine h (fun f s t => E f s t < 2002) (fun k hk => ?_) (closed_closX hE hC fun i hi => ?_)
  · show E _ _ _ < 2002
    rw [hg k hk]; omega
  · obtain ⟨_, _, h3, _⟩ := hG.num i hi
    have := (oneSk_iff _).1 h3
    omega
theorem way_tells (L : List Psh) (c gl : Cfg) (a b b' : Option Addr) (d k k' : Nat) (w : World) (h : PushAt w a L) (hm : L.length ≤ maxLen) (hc : Ints w b c.2) (hg : Ints w b' gl.2) (hgm : gl.2.length ≤ maxLen) (hK : checkSk L = 0) (hcf : cfgSk c = 0) :
    Calls Try.prog 4 #[.slice a L.length d, cfgV c.1 b c.2.length k, cfgV gl.1 b' gl.2.length k'] w (WTell L c gl w) := by
  have hG := goodSk_of hK
  have hC := goodCf_of hcf
  have hcl := hC.len
  by_cases hy : allSk L [c, gl] = 0
  · have hy2 : cfgSk gl = 0 := by
      rw [allSk_good hK] at hy
      have : cfgsSk [c, gl] = if cfgSk c = 0 then (if cfgSk gl = 0 then 0 else cfgSk gl) else cfgSk c := rfl
      rw [this, if_pos hcf] at hy
      split at hy
      · assumption
      · exact hy
    have hL := goodCf_of hy2
    obtain ⟨c1, c2⟩ := (oneSk_iff _).1 hC.one
    obtain ⟨g1, g2⟩ := (oneSk_iff _).1 hL.one
    obtain ⟨c0, zs⟩ := c
    obtain ⟨gx, gz⟩ := gl
    simp only at *
    obtain ⟨cN, rfl⟩ : ∃ cN : Nat, c0 = (cN : Int) := ⟨c0.toNat, by omega⟩
    obtain ⟨gN, rfl⟩ : ∃ gN : Nat, gx = (gN : Int) := ⟨gx.toNat, by omega⟩
    refine (wayE_good L cN gN zs gz a b b' d k k' w h hm hc hg hy hG hcl hL.len (by omega) (by omega) hC.num hL.num).mono fun e w' hE => ?_
    rcases hE with ⟨_, rfl, hgr⟩ | ⟨h3, E, ar, n, cr, can, y, rfl, hgr, hT, hTw, f1, f2, f3⟩
    · exact ⟨none, 0, 0, false, 1, rfl, hgr, fun e => by omega⟩
    · refine ⟨ar, n, cr, can, y, rfl, hgr, fun hy0 => ?_⟩
      have hen : behC gN gz.length < 6 := by unfold behC; split <;> omega
      have ht := readC_top E cN zs (behC gN gz.length)
      have key := tow_fin hT hTw hG (cN := cN) (by omega) zs hen
      simp only [Int.toNat_natCast]
      rw [← key]
      by_cases e1 : readC E cN zs (behC gN gz.length) = 2002
      · rw [(f1 e1).1]; constructor
        · intro h; cases h
        · intro h; omega
      · by_cases e2 : readC E cN zs (behC gN gz.length) = 2001
        · have := f2 e2; omega
        · rw [(f3 (by omega)).1]
          exact ⟨fun _ => by omega, fun _ => rfl⟩
  · refine (wayE_bad L c gl a b b' d k k' w h hm hc (by unfold maxLen; omega) hg hgm hy).mono fun e w' hE => ?_
    obtain ⟨rfl, hgr⟩ := hE
    exact ⟨none, 0, 0, false, _, rfl, hgr, fun e => absurd e hy⟩
def L1 : List Psh := [⟨0, 0, 1, []⟩]
theorem l1_way (a b : Option Addr) (w : World) (h : PushAt w a L1) (hc : Ints w b [0]) :
    Calls Try.prog 4 #[.slice a 1 1, cfgV 0 b 1 1, cfgV 1 none 0 0] w fun e w' => ∃ ar n cr, e = .returned (.tuple #[.slice ar n cr, .bool true, .int .i64 0]) ∧ w.grownBy w' none := by
  have hK : checkSk L1 = 0 := by decide
  have hG := goodSk_of hK
  have hy : allSk L1 [(((0 : Nat) : Int), [0]), (((1 : Nat) : Int), [])] = 0 := by decide
  refine (wayE_good L1 0 1 [0] [] a b none 1 1 0 w h (by unfold maxLen L1; simp) hc (.inl rfl) hy hG (by simp) (by simp) (by omega) (by omega) (fun i hi => by simp at hi; subst hi; decide) (fun i hi => by simp at hi)).mono fun e w' hE => ?_
  rcases hE with ⟨h3, _⟩ | ⟨_, E, ar, n, cr, can, y, rfl, hgr, hT, hTw, f1, f2, f3⟩
  · simp at h3
  · have h1 := hTw.2.1 0 (by simp [L1]) 1 (by omega)
    have e1 : readC E 1 [] 1 = 0 := by unfold readC; rw [readsC_nil]; rfl
    have e2 : (L1.getD 0 pu0) = ⟨0, 0, 1, []⟩ := rfl
    rw [e2] at h1
    have e3 : ((1 : Int).toNat) = 1 := rfl
    have e4 : ((0 : Int).toNat) = 0 := rfl
    simp only [e3, e4] at h1
    rw [e1] at h1
    have e5 : sumC 0 1 = 1 := by decide
    rw [e5] at h1
    have h2 : readC E 0 [0] 1 ≤ 1 := by
      unfold readC
      rw [readsC_cons, readsC_nil]
      have := minF_le (g := fun f => sumC (row0 0 f) (E f (0 : Int).toNat 1)) (n := 6) (k := 0) (by omega)
      have e6 : row0 0 0 = 0 := rfl
      simp only [e4, e6] at this
      have h4 : sumC 0 (E 0 0 1) ≤ 1 := by
        have : sumC 0 (E 0 0 1) ≤ sumC 0 1 := sumC_mono (Nat.le_refl _) h1 (by omega) (by omega)
        omega
      unfold byC
      simp only [e4]
      omega
    obtain ⟨rfl, rfl⟩ := f3 (by show readC E 0 [0] 1 ≤ 2000; omega)
    exact ⟨ar, n, cr, rfl, hgr⟩

/-- What the law has made ahead of all. -/
theorem goes_start (w : World) (c1 g1 : Int) (vc vg : Value) : ∃ W, W = (w.alloc (.cells #[.int .i64 c1, vc] 25)).alloc (.cells #[.int .i64 g1, vg] 25) ∧ w.grownBy W none ∧ W.heap.size = w.heap.size + 2 ∧ ∀ V, W.grownBy V none → V.cell? ⟨w.heap.size, 0, none⟩ = some (.int .i64 c1) ∧ V.cell? ⟨w.heap.size, 1, none⟩ = some vc ∧ V.cell? ⟨w.heap.size + 1, 0, none⟩ = some (.int .i64 g1) ∧ V.cell? ⟨w.heap.size + 1, 1, none⟩ = some vg := by
  obtain ⟨q0, q1, q2, q3⟩ := way_cells w c1 g1 vc vg _ rfl
  exact ⟨_, rfl, grown_trans (grown_alloc _ _) (grown_alloc _ _), by simp, fun V hV => ⟨hV.cell q0 (by simp), hV.cell q1 (by simp), hV.cell q2 (by simp), hV.cell q3 (by simp)⟩⟩

set_option maxHeartbeats 12800000 in
set_option maxRecDepth 100000 in
theorem goes_walk (LV : Value) (c1 g1 : Int) (b b' : Option Addr) (n n' k k' : Nat) (rule : Int) (w : World) (XS : World → Int → Option Addr → Nat → Nat → Prop)
    (HSt : Hid (∀ W, w.grownBy W none → Calls Try.prog 5 #[LV, cfgV c1 b n k, .int .i64 rule] W fun e w' => ∃ x1 ax nx kx y, e = .returned (.tuple #[cfgV x1 ax nx kx, .int .i64 y]) ∧ (y = 0 → ∀ V, w'.grownBy V none → XS V x1 ax nx kx) ∧ W.grownBy w' none))
    (Pc : Bool → Int → Prop) (Px : Int → Option Addr → Nat → Nat → Bool → Int → Prop)
    (HW1 : Hid (∀ W x1 ax nx kx, w.grownBy W none → XS W x1 ax nx kx → nx ≤ 20 → Calls Try.prog 4 #[LV, cfgV c1 b n k, cfgV g1 b' n' k'] W fun e w' => ∃ ar m cr can y, e = .returned (.tuple #[.slice ar m cr, .bool can, .int .i64 y]) ∧ W.grownBy w' none ∧ Pc can y))
    (HW2 : Hid (∀ W x1 ax nx kx, w.grownBy W none → XS W x1 ax nx kx → nx ≤ 20 → Calls Try.prog 4 #[LV, cfgV x1 ax nx kx, cfgV g1 b' n' k'] W fun e w' => ∃ ar m cr can y, e = .returned (.tuple #[.slice ar m cr, .bool can, .int .i64 y]) ∧ W.grownBy w' none ∧ Px x1 ax nx kx can y))
    (HXk : Hid (∀ W V x1 ax nx kx, W.grownBy V none → XS W x1 ax nx kx → XS V x1 ax nx kx))
    (HEnd : Hid (∀ W x1 ax nx kx can can', XS W x1 ax nx kx → nx ≤ 20 → Pc can 0 → Px x1 ax nx kx can' 0 → can' = true → can = true)) :
    Calls Try.prog 3 #[LV, cfgV c1 b n k, .int .i64 rule, cfgV g1 b' n' k'] w (Says (.bool true) w) := by
  obtain ⟨W1, hW1, g1', s1, bx1⟩ := goes_start w c1 g1 (.slice b n k) (.slice b' n' k')
  have HW1' : Hid (W1 = _) := hW1
  have G1 : Hid (w.grownBy W1 none) := g1'
  have BX : Hid (∀ V, W1.grownBy V none → V.cell? ⟨w.heap.size, 0, none⟩ = some (.int .i64 c1) ∧ V.cell? ⟨w.heap.size, 1, none⟩ = some (.slice b n k) ∧ V.cell? ⟨w.heap.size + 1, 0, none⟩ = some (.int .i64 g1) ∧ V.cell? ⟨w.heap.size + 1, 1, none⟩ = some (.slice b' n' k')) := bx1
  obtain ⟨W2, hW2⟩ : ∃ W2, W2 = W1.alloc (.cells #[.int .i64 0, .int .i64 0, .int .i64 1, .slice none 0 0] 27) := ⟨_, rfl⟩
  obtain ⟨W3, hW3⟩ : ∃ W3, W3 = W2.alloc (.cells #[.int .i64 0] 3) := ⟨_, rfl⟩
  have HW3 : Hid (W3 = ((((w.alloc (.cells #[.int .i64 c1, .slice b n k] 25)).alloc (.cells #[.int .i64 g1, .slice b' n' k'] 25)).alloc (.cells #[.int .i64 0, .int .i64 0, .int .i64 1, .slice none 0 0] 27)).alloc (.cells #[.int .i64 0] 3))) := by show _ = _; rw [hW3, hW2, hW1]
  have G3 : Hid (W1.grownBy W3 none) := by show World.grownBy _ _ _; rw [hW3, hW2]; exact grown_trans (grown_alloc _ _) (grown_alloc _ _)
  have s2 : W2.heap.size = w.heap.size + 3 := by rw [hW2]; simp [s1]
  have CF : Hid (Calls Try.prog 4 #[.slice (some ⟨w.heap.size + 2, 0, none⟩) 1 1, cfgV 0 (some ⟨w.heap.size + 3, 0, none⟩) 1 1, cfgV 1 none 0 0] W3 fun e w' => ∃ ar n cr, e = .returned (.tuple #[.slice ar n cr, .bool true, .int .i64 0]) ∧ W3.grownBy w' none) := by
    refine l1_way _ _ W3 ?_ ?_
    · refine .inr ⟨w.heap.size + 2, 0, rfl, fun i hi => ?_⟩
      have : i = 0 := by simpa [L1] using hi
      subst this
      have hb : W2.heap[w.heap.size + 2]? = some (.cells #[.int .i64 0, .int .i64 0, .int .i64 1, .slice none 0 0] 27 (0, 0)) := by rw [hW2, ← s1]; exact heap_alloc_new W1 _
      have hb3 : W3.heap[w.heap.size + 2]? = some (.cells #[.int .i64 0, .int .i64 0, .int .i64 1, .slice none 0 0] 27 (0, 0)) := by rw [hW3]; exact ((grown_alloc W2 _).block _ (by omega) (by simp)).trans hb
      exact ⟨by rw [cell_of_row _ _ _ _ _ (0, 0) hb3]; rfl, by rw [cell_of_row _ _ _ _ _ (0, 0) hb3]; rfl, by rw [cell_of_row _ _ _ _ _ (0, 0) hb3]; rfl, none, 0, by rw [cell_of_row _ _ _ _ _ (0, 0) hb3]; rfl, .inl rfl, by unfold maxLen; show 0 ≤ _; omega⟩
    · have hb : W3.heap[w.heap.size + 3]? = some (.cells #[.int .i64 0] 3 (0, 0)) := by rw [hW3, ← s2]; exact heap_alloc_new W2 _
      exact .inr ⟨w.heap.size + 3, 0, rfl, fun i hi => by
        have : i = 0 := by simpa using hi
        subst this
        rw [cell_of_row _ _ _ _ _ (0, 0) hb]; rfl⟩
  clear hW1 g1' s1 bx1 hW2 hW3 s2
  go_enter Try.func3, Try.ntmps3
  go_wp2_with fail
  rw [← HW3.out]
  refine CF.out.mono ?_
  rintro e w4 ⟨ar, m, cr, rfl, hg4⟩
  have G4 : Hid (W1.grownBy w4 none) := grown_trans G3.out hg4
  obtain ⟨q0, q1, q2, q3⟩ := BX.out w4 G4.out
  clear hg4 HW3 G3 CF HW1'
  go_wp2_with fail
  clear q0 q1 q2 q3
  refine (HSt.out w4 (grown_trans G1.out G4.out)).mono ?_
  rintro e w5 ⟨x1, ax, nx, kx, y, rfl, hX, hg5⟩
  obtain ⟨W6, hW6, g6, s6, bx6⟩ := box2_new w5 (.int .i64 x1) (.slice ax nx kx) 25
  have HW6 : Hid (W6 = _) := hW6
  have G6 : Hid (W1.grownBy W6 none) := grown_trans G4.out (grown_trans hg5 g6)
  obtain ⟨b6, hb6⟩ : ∃ b6, w5.heap.size = b6 := ⟨_, rfl⟩
  have BX6 : Hid (∀ V, W6.grownBy V none → V.cell? ⟨b6, 0, none⟩ = some (.int .i64 x1) ∧ V.cell? ⟨b6, 1, none⟩ = some (.slice ax nx kx)) := by rw [hb6] at bx6; exact bx6
  obtain ⟨p0, p1⟩ := BX6.out W6 (grown_refl _ _)
  rw [hW6] at p0 p1
  by_cases hy : y = 0
  · subst hy
    have HX : Hid (XS W6 x1 ax nx kx) := hX rfl W6 g6
    clear hX hW6 g6 s6 bx6 hg5
    by_cases hn : nx ≤ 20
    · have hni : ¬ (20 : Int) < (nx : Int) := by omega
      obtain ⟨q0, q1, q2, q3⟩ := BX.out W6 G6.out
      rw [HW6.out] at q0 q1 q2 q3
      go_wp2_with fail
      rw [← HW6.out]
      clear q0 q1 q2 q3 p0 p1 hb6 HW6
      refine (HW1.out W6 x1 ax nx kx (grown_trans G1.out G6.out) HX.out hn).mono ?_
      rintro e w7 ⟨ar7, m7, cr7, can7, y7, rfl, hg7, hP7⟩
      obtain ⟨q0, q1, q2, q3⟩ := BX.out w7 (grown_trans G6.out hg7)
      obtain ⟨p0, p1⟩ := BX6.out w7 hg7
      have G7 : Hid (W6.grownBy w7 none) := hg7
      have HP7 : Hid (Pc can7 y7) := hP7
      clear hg7 hP7
      go_wp2_with fail
      clear q0 q1 q2 q3 p0 p1
      refine (HW2.out w7 x1 ax nx kx (grown_trans G1.out (grown_trans G6.out G7.out)) (HXk.out W6 w7 x1 ax nx kx G7.out HX.out) hn).mono ?_
      rintro e w8 ⟨ar8, m8, cr8, can8, y8, rfl, hg8, hP8⟩
      have G8 : Hid (w.grownBy w8 none) := grown_trans G1.out (grown_trans G6.out (grown_trans G7.out hg8))
      have HP8 : Hid (Px x1 ax nx kx can8 y8) := hP8
      clear hg8 hP8
      by_cases h7 : y7 = 0
      · subst h7
        by_cases h8 : y8 = 0
        · subst h8
          cases hc8 : can8 with
          | false =>
            go_wp2_with fail
            go_ret
            exact ⟨rfl, G8.out⟩
          | true =>
            have hc7 : can7 = true := HEnd.out W6 x1 ax nx kx can7 can8 HX.out hn HP7.out HP8.out hc8
            subst hc7
            go_wp2_with fail
            go_ret
            exact ⟨rfl, G8.out⟩
        · have e8 : (y8 != 0) = true := by simpa using h8
          go_wp2_with fail
          go_ret
          exact ⟨rfl, G8.out⟩
      · have e7 : (y7 != 0) = true := by simpa using h7
        go_wp2_with fail
        go_ret
        exact ⟨rfl, G8.out⟩
    · have hni : (20 : Int) < (nx : Int) := by omega
      have GF : Hid (w.grownBy W6 none) := grown_trans G1.out G6.out
      go_wp2_with fail
      rw [← HW6.out]
      go_ret
      exact ⟨rfl, GF.out⟩
  · have ey : (y != 0) = true := by simpa using hy
    have GF : Hid (w.grownBy W6 none) := grown_trans G1.out G6.out
    clear hX hW6 g6 s6 bx6 hg5
    go_wp2_with fail
    rw [← HW6.out]
    go_ret
    exact ⟨rfl, GF.out⟩

end Go.Proofs.Ythnbiiipfcogeaa
