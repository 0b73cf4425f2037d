/- An atom, as the program reads it. -/
import Derived.Test.YtaommgnlnfhbfaaKName
namespace Go.Proofs.Ytaommgnlnfhbfaa
open Go.RowKit
set_option linter.unusedVariables false

/-- An atom's node under way, in block g. -/
def NBx (w : World) (g k : Nat) (x y : Int) : Prop := w.heap[g]? = some (.cells #[.int .i64 (k : Int), .pointer none, .pointer none, .bool false, .int .i64 x, .int .i64 y] 58 (0, 0))
section
variable {w w' : World} {g k : Nat} {x y : Int}
theorem NBx.lt (h : NBx w g k x y) : g < w.heap.size := (Array.getElem?_eq_some_iff.1 h).1
theorem NBx.c0 (h : NBx w g k x y) : w.cell? ⟨g, 0, none⟩ = some (.int .i64 (k : Int)) := by rw [cell_of_row w g 0 _ _ (0, 0) h]; rfl
theorem NBx.c4 (h : NBx w g k x y) : w.cell? ⟨g, 4, none⟩ = some (.int .i64 x) := by rw [cell_of_row w g 4 _ _ (0, 0) h]; rfl
theorem NBx.c5 (h : NBx w g k x y) : w.cell? ⟨g, 5, none⟩ = some (.int .i64 y) := by rw [cell_of_row w g 5 _ _ (0, 0) h]; rfl
theorem NBx.f (h : NBx w g k x y) (j : Nat) : w.frozen? ⟨g, j, none⟩ = false := frozen_of_row w g j _ _ h
theorem NBx.set0 (h : NBx w g k x y) (j : Nat) {z : Int} (hz : z = j) : NBx (w.setCell ⟨g, 0, none⟩ (.int .i64 z)) g j x y := by subst hz; unfold NBx at h ⊢; rw [heap_setCell_same w g 0 _ _ _ h]; rfl
theorem NBx.set4 (h : NBx w g k x y) (z : Int) : NBx (w.setCell ⟨g, 4, none⟩ (.int .i64 z)) g k z y := by unfold NBx at h ⊢; rw [heap_setCell_same w g 4 _ _ _ h]; rfl
theorem NBx.set5 (h : NBx w g k x y) (z : Int) : NBx (w.setCell ⟨g, 5, none⟩ (.int .i64 z)) g k x z := by unfold NBx at h ⊢; rw [heap_setCell_same w g 5 _ _ _ h]; rfl
theorem NBx.kept {b : Nat} (h : NBx w g k x y) (hg : w.grownBy w' (some b)) (hne : g ≠ b) : NBx w' g k x y := (hg.block g h.lt (by simpa using hne)).trans h
end
/-- Where an atom's reading stands: nothing old has turned but the reader; the reader; the node. -/
structure AtS (w : World) (b g : Nat) (s : ByteArray) (W : World) (i n d : Nat) (c : Int) (j k : Nat) (x y : Int) : Prop where
  gr : w.grownBy W (some b)
  rd : LRd W b s i n d c j
  nb : NBx W g k x y
section
variable {w W W' : World} {b g : Nat} {s : ByteArray} {i n d : Nat} {c : Int} {j k : Nat} {x y : Int}
theorem AtS.call {i' n' : Nat} {c' : Int} {j' : Nat} (h : AtS w b g s W i n d c j k x y) (hb : g ≠ b) (hg : W.grownBy W' (some b)) (hr : LRd W' b s i' n' d c' j') : AtS w b g s W' i' n' d c' j' k x y := ⟨grown_trans h.gr hg, hr, h.nb.kept hg hb⟩
theorem AtS.idle (h : AtS w b g s W i n d c j k x y) (hb : g ≠ b) (hg : W.grownBy W' none) : AtS w b g s W' i n d c j k x y := h.call hb (grown_some hg) (h.rd.kept hg)
theorem AtS.put0 (h : AtS w b g s W i n d c j k x y) (hb : g ≠ b) (hw : w.heap.size ≤ g) (q : Nat) {z : Int} (hz : z = q) : AtS w b g s (W.setCell ⟨g, 0, none⟩ (.int .i64 z)) i n d c j q x y := ⟨grown_new h.gr (grown_set _ _ _) hw, h.rd.keptR (grown_set _ _ _) (fun e => hb e.symm), h.nb.set0 q hz⟩
theorem AtS.put4 (h : AtS w b g s W i n d c j k x y) (hb : g ≠ b) (hw : w.heap.size ≤ g) (z : Int) : AtS w b g s (W.setCell ⟨g, 4, none⟩ (.int .i64 z)) i n d c j k z y := ⟨grown_new h.gr (grown_set _ _ _) hw, h.rd.keptR (grown_set _ _ _) (fun e => hb e.symm), h.nb.set4 z⟩
theorem AtS.put5 (h : AtS w b g s W i n d c j k x y) (hb : g ≠ b) (hw : w.heap.size ≤ g) (z : Int) : AtS w b g s (W.setCell ⟨g, 5, none⟩ (.int .i64 z)) i n d c j k x z := ⟨grown_new h.gr (grown_set _ _ _) hw, h.rd.keptR (grown_set _ _ _) (fun e => hb e.symm), h.nb.set5 z⟩
theorem AtS.good {f : Lf} (h : AtS w b g s W i n d 0 0 k x y) (hw : w.heap.size ≤ g) (hf : trL f = .node k .nil .nil false x y) : KGives s b d w (.good f i n) (.returned (.pointer (some ⟨g, 0, none⟩))) W := ⟨h.gr, _, rfl, h.rd, by rw [hf]; exact .node g k .nil .nil false x y _ _ hw h.nb .nil .nil⟩
theorem AtS.bad (h : AtS w b g s W s.size n d c j k x y) (hw : w.heap.size ≤ g) (hn : n ≤ 32) : KGives s b d w (.bad c j) (.returned (.pointer (some ⟨g, 0, none⟩))) W := ⟨h.gr, _, k, .nil, .nil, false, x, y, n, rfl, hn, h.rd, .node g k .nil .nil false x y _ _ hw h.nb .nil .nil⟩
end

set_option maxHeartbeats 6400000 in
theorem atomK_does (s : ByteArray) (m : Nat) (hs : s.size ≤ 4000) : KDoes 34 s (atomK s) m := by
  intro i n d b sc w a cap hi hm hn hd hsl h hc
  have HP : Hid (∀ W k x y, AtS w b w.heap.size s W i n d 0 0 k x y → Calls Try.prog 24 #[.pointer (some ⟨b, 0, none⟩)] W fun e w' => e = .returned (.int .u8 (byT s i)) ∧ W.grownBy w' none) := fun W k x y h1 => peekK_any s b i n d 0 0 W hs hi h1.rd
  have HSe : Hid (∀ W, Calls Try.prog 38 #[.int .u8 (byT s i)] W fun e w' => e = .returned (.bool (isSe (byT s i))) ∧ w' = W) := fun W => isSe_any (byT s i) W
  have HPl : Hid (∀ W, Calls Try.prog 37 #[.int .u8 (byT s i)] W fun e w' => e = .returned (.bool (isPl (byT s i))) ∧ w' = W) := fun W => isPl_any (byT s i) W
  have HCg : Hid (∀ W k x y, i < s.size → ¬ 30 < n + 1 → AtS w b w.heap.size s W i n d 0 0 k x y → Calls Try.prog 25 #[.pointer (some ⟨b, 0, none⟩)] W fun e w' => e = .returned (.tuple #[]) ∧ W.grownBy w' (some b) ∧ LRd w' b s (i + 1) (n + 1) d 0 0) := fun W k x y h1 h2 h3 => countK_go s b i n d W hs h1 h2 h3.rd
  have HCf : Hid (∀ W k x y, 30 < n + 1 → AtS w b w.heap.size s W i n d 0 0 k x y → Calls Try.prog 25 #[.pointer (some ⟨b, 0, none⟩)] W fun e w' => e = .returned (.tuple #[]) ∧ W.grownBy w' (some b) ∧ LRd w' b s s.size (n + 1) d 7 i) := fun W k x y h2 h3 => countK_full s b i n d W hs hi hn h2 h3.rd
  have HCs : Hid (∀ W k x y (c : Int) (j : Nat), c ≠ 0 → AtS w b w.heap.size s W s.size n d c j k x y → Calls Try.prog 25 #[.pointer (some ⟨b, 0, none⟩)] W fun e w' => e = .returned (.tuple #[]) ∧ W.grownBy w' (some b) ∧ LRd w' b s s.size (n + 1) d c j) := fun W k x y c j h2 h3 => countK_stop s b n d c j W hs h2 (by omega) h3.rd
  have HQ : Hid (∀ W i' n' k x y, i' ≤ s.size → AtS w b w.heap.size s W i' n' d 0 0 k x y → Calls Try.prog 39 #[.pointer (some ⟨b, 0, none⟩), .slice a sc.length cap] W (PlK s b n' d sc i' W)) := fun W i' n' k x y h1 h2 => placeK_any s b i' n' d cap sc a W hs h1 (by omega) h2.rd (hc.kept h2.gr)
  have HQs : Hid (∀ W n' k x y (c : Int) (j : Nat), c ≠ 0 → AtS w b w.heap.size s W s.size n' d c j k x y → Calls Try.prog 39 #[.pointer (some ⟨b, 0, none⟩), .slice a sc.length cap] W fun e w' => (∃ z : Int, e = .returned (.int .i64 z)) ∧ W.grownBy w' (some b) ∧ LRd w' b s s.size n' d c j) := fun W n' k x y c j h1 h2 => placeK_stop s b n' d cap c j sc a W hs (by omega) h1 h2.rd (hc.kept h2.gr)
  have HNs : Hid (∀ W q k x y, idxF sc (byT s i) = some q → AtS w b w.heap.size s W i n d 0 0 k x y → Calls Try.prog 40 #[.pointer (some ⟨b, 0, none⟩), .slice a sc.length cap] W fun e w' => e = .returned (.int .i64 (q : Int)) ∧ W.grownBy w' none) := fun W q k x y h1 h2 => namedK_some s b i n d q cap sc a W hs hi (by omega) h1 h2.rd (hc.kept h2.gr)
  have HNn : Hid (∀ W k x y, idxF sc (byT s i) = none → AtS w b w.heap.size s W i n d 0 0 k x y → Calls Try.prog 40 #[.pointer (some ⟨b, 0, none⟩), .slice a sc.length cap] W fun e w' => e = .returned (.int .i64 (-1)) ∧ W.grownBy w' (some b) ∧ LRd w' b s s.size n d 5 i) := fun W k x y h1 h2 => namedK_none s b i n d cap sc a W hs hi (by omega) h1 h2.rd (hc.kept h2.gr)
  have HR : Hid (∀ W i' n' k x y, i' ≤ s.size → AtS w b w.heap.size s W i' n' d 0 0 k x y → Calls Try.prog 41 #[.pointer (some ⟨b, 0, none⟩)] W (RlK s b n' d i' W)) := fun W i' n' k x y h1 h2 => relK_any s b i' n' d W hs h1 h2.rd
  have HRs : Hid (∀ W n' k x y (c : Int) (j : Nat), c ≠ 0 → AtS w b w.heap.size s W s.size n' d c j k x y → Calls Try.prog 41 #[.pointer (some ⟨b, 0, none⟩)] W fun e w' => (∃ z : Nat, e = .returned (.int .i64 (z : Int))) ∧ W.grownBy w' (some b) ∧ LRd w' b s s.size n' d c j) := fun W n' k x y c j h1 h2 => relK_stop s b n' d c j W hs h1 h2.rd
  obtain ⟨W0, hW0⟩ : ∃ W0, W0 = w.alloc (.cells #[.int .i64 0, .pointer none, .pointer none, .bool false, .int .i64 0, .int .i64 0] 58) := ⟨_, rfl⟩
  have HW0 : Hid (W0 = w.alloc (.cells #[.int .i64 0, .pointer none, .pointer none, .bool false, .int .i64 0, .int .i64 0] 58)) := hW0
  have S0 : Hid (AtS w b w.heap.size s W0 i n d 0 0 0 0 0) := by
    have g0 : w.grownBy W0 none := by rw [hW0]; exact grown_alloc _ _
    exact ⟨grown_some g0, h.kept g0, by rw [hW0]; exact heap_alloc_new w _⟩
  have HB : Hid (w.heap.size ≠ b) := by have := h.lt; show _ ≠ _; omega
  have HWg : Hid (w.heap.size ≤ w.heap.size) := Nat.le_refl _
  clear hW0 h hc
  have HI : Hid (0 < byT s i → i < s.size) := fun h1 => byT_pos rfl h1
  unfold atomK
  obtain ⟨c, hcq⟩ : ∃ c, byT s i = c := ⟨_, rfl⟩
  rw [hcq] at HP HSe HPl HNs HNn HI
  rw [hcq]
  clear hcq
  by_cases hA : c = 97 ∨ c = 98
  · rw [if_pos hA]
    have hil : i < s.size := HI.out (by omega)
    clear HSe HPl HNs HNn HR HRs HCs
    by_cases hf : 30 < n + 1
    · rw [if_pos hf]
      rcases hA with rfl | rfl
      · go_enter Try.func34, Try.ntmps34
        go_wp2_with fail
        rw [← HW0.out]
        clear HW0
        refine (HP.out _ _ _ _ S0.out).mono ?_
        rintro e w10 ⟨rfl, hg⟩
        have T1 : Hid (AtS w b w.heap.size s w10 i n d 0 0 0 0 0) := S0.out.idle HB.out hg
        clear hg S0
        have y0 := T1.out.nb.c0
        have z0 := T1.out.nb.f 0
        go_wp2_with fail
        clear y0 z0
        have T2 : Hid (AtS w b w.heap.size s (w10.setCell ⟨w.heap.size, 0, none⟩ (.int .i64 4)) i n d 0 0 4 0 0) := T1.out.put0 HB.out HWg.out 4 (by first | rfl | omega)
        refine (HCf.out _ _ _ _ hf T2.out).mono ?_
        rintro e w12 ⟨rfl, hg, hr⟩
        have T3 : Hid (AtS w b w.heap.size s w12 s.size (n + 1) d 7 i 4 0 0) := T2.out.call HB.out hg hr
        clear hg hr T2 
        go_wp2_with fail
        refine (HQs.out _ _ _ _ _ 7 _ (by omega) T3.out).mono ?_
        rintro e w13 ⟨⟨z, rfl⟩, hg, hr⟩
        have T4 : Hid (AtS w b w.heap.size s w13 s.size (n + 1) d 7 i 4 0 0) := T3.out.call HB.out hg hr
        clear hg hr T3 
        have y4 := T4.out.nb.c4
        have z4 := T4.out.nb.f 4
        have T5 : Hid (AtS w b w.heap.size s (w13.setCell ⟨w.heap.size, 4, none⟩ (.int .i64 z)) s.size (n + 1) d 7 i 4 z 0) := T4.out.put4 HB.out HWg.out z
        go_wp2_with fail
        go_ret
        exact T5.out.bad HWg.out (by omega)
      · go_enter Try.func34, Try.ntmps34
        go_wp2_with fail
        rw [← HW0.out]
        clear HW0
        refine (HP.out _ _ _ _ S0.out).mono ?_
        rintro e w10 ⟨rfl, hg⟩
        have T1 : Hid (AtS w b w.heap.size s w10 i n d 0 0 0 0 0) := S0.out.idle HB.out hg
        clear hg S0
        have y0 := T1.out.nb.c0
        have z0 := T1.out.nb.f 0
        go_wp2_with fail
        clear y0 z0
        have T2 : Hid (AtS w b w.heap.size s (w10.setCell ⟨w.heap.size, 0, none⟩ (.int .i64 5)) i n d 0 0 5 0 0) := T1.out.put0 HB.out HWg.out 5 (by first | rfl | omega)
        refine (HCf.out _ _ _ _ hf T2.out).mono ?_
        rintro e w12 ⟨rfl, hg, hr⟩
        have T3 : Hid (AtS w b w.heap.size s w12 s.size (n + 1) d 7 i 5 0 0) := T2.out.call HB.out hg hr
        clear hg hr T2 
        go_wp2_with fail
        refine (HQs.out _ _ _ _ _ 7 _ (by omega) T3.out).mono ?_
        rintro e w13 ⟨⟨z, rfl⟩, hg, hr⟩
        have T4 : Hid (AtS w b w.heap.size s w13 s.size (n + 1) d 7 i 5 0 0) := T3.out.call HB.out hg hr
        clear hg hr T3 
        have y4 := T4.out.nb.c4
        have z4 := T4.out.nb.f 4
        have T5 : Hid (AtS w b w.heap.size s (w13.setCell ⟨w.heap.size, 4, none⟩ (.int .i64 z)) s.size (n + 1) d 7 i 5 z 0) := T4.out.put4 HB.out HWg.out z
        go_wp2_with fail
        go_ret
        exact T5.out.bad HWg.out (by omega)
    · rw [if_neg hf]
      unfold placeK
      cases hpl : isPl (byT s (i + 1)) with
      | true =>
        simp only [if_true]
        cases hix : idxF sc (byT s (i + 1)) with
        | none =>
          simp only
          rcases hA with rfl | rfl
          · go_enter Try.func34, Try.ntmps34
            go_wp2_with fail
            rw [← HW0.out]
            clear HW0
            refine (HP.out _ _ _ _ S0.out).mono ?_
            rintro e w10 ⟨rfl, hg⟩
            have T1 : Hid (AtS w b w.heap.size s w10 i n d 0 0 0 0 0) := S0.out.idle HB.out hg
            clear hg S0
            have y0 := T1.out.nb.c0
            have z0 := T1.out.nb.f 0
            go_wp2_with fail
            clear y0 z0
            have T2 : Hid (AtS w b w.heap.size s (w10.setCell ⟨w.heap.size, 0, none⟩ (.int .i64 4)) i n d 0 0 4 0 0) := T1.out.put0 HB.out HWg.out 4 (by first | rfl | omega)
            refine (HCg.out _ _ _ _ hil hf T2.out).mono ?_
            rintro e w12 ⟨rfl, hg, hr⟩
            have T3 : Hid (AtS w b w.heap.size s w12 (i + 1) (n + 1) d 0 0 4 0 0) := T2.out.call HB.out hg hr
            clear hg hr T2 
            go_wp2_with fail
            refine (HQ.out _ (i + 1) _ _ _ _ (by omega) T3.out).mono ?_
            rintro e w13 ⟨hg, z, rfl, hr⟩
            rw [hpl, if_pos rfl, hix] at hr
            simp only at hr
            have T4 : Hid (AtS w b w.heap.size s w13 s.size (n + 1) d 5 (i + 1) 4 0 0) := T3.out.call HB.out hg hr
            clear hg hr T3
            have y4 := T4.out.nb.c4
            have z4 := T4.out.nb.f 4
            have T5 : Hid (AtS w b w.heap.size s (w13.setCell ⟨w.heap.size, 4, none⟩ (.int .i64 z)) s.size (n + 1) d 5 (i + 1) 4 z 0) := T4.out.put4 HB.out HWg.out z
            go_wp2_with fail
            go_ret
            exact T5.out.bad HWg.out (by omega)
          · go_enter Try.func34, Try.ntmps34
            go_wp2_with fail
            rw [← HW0.out]
            clear HW0
            refine (HP.out _ _ _ _ S0.out).mono ?_
            rintro e w10 ⟨rfl, hg⟩
            have T1 : Hid (AtS w b w.heap.size s w10 i n d 0 0 0 0 0) := S0.out.idle HB.out hg
            clear hg S0
            have y0 := T1.out.nb.c0
            have z0 := T1.out.nb.f 0
            go_wp2_with fail
            clear y0 z0
            have T2 : Hid (AtS w b w.heap.size s (w10.setCell ⟨w.heap.size, 0, none⟩ (.int .i64 5)) i n d 0 0 5 0 0) := T1.out.put0 HB.out HWg.out 5 (by first | rfl | omega)
            refine (HCg.out _ _ _ _ hil hf T2.out).mono ?_
            rintro e w12 ⟨rfl, hg, hr⟩
            have T3 : Hid (AtS w b w.heap.size s w12 (i + 1) (n + 1) d 0 0 5 0 0) := T2.out.call HB.out hg hr
            clear hg hr T2 
            go_wp2_with fail
            refine (HQ.out _ (i + 1) _ _ _ _ (by omega) T3.out).mono ?_
            rintro e w13 ⟨hg, z, rfl, hr⟩
            rw [hpl, if_pos rfl, hix] at hr
            simp only at hr
            have T4 : Hid (AtS w b w.heap.size s w13 s.size (n + 1) d 5 (i + 1) 5 0 0) := T3.out.call HB.out hg hr
            clear hg hr T3
            have y4 := T4.out.nb.c4
            have z4 := T4.out.nb.f 4
            have T5 : Hid (AtS w b w.heap.size s (w13.setCell ⟨w.heap.size, 4, none⟩ (.int .i64 z)) s.size (n + 1) d 5 (i + 1) 5 z 0) := T4.out.put4 HB.out HWg.out z
            go_wp2_with fail
            go_ret
            exact T5.out.bad HWg.out (by omega)
        | some q =>
          simp only
          rcases hA with rfl | rfl
          · go_enter Try.func34, Try.ntmps34
            go_wp2_with fail
            rw [← HW0.out]
            clear HW0
            refine (HP.out _ _ _ _ S0.out).mono ?_
            rintro e w10 ⟨rfl, hg⟩
            have T1 : Hid (AtS w b w.heap.size s w10 i n d 0 0 0 0 0) := S0.out.idle HB.out hg
            clear hg S0
            have y0 := T1.out.nb.c0
            have z0 := T1.out.nb.f 0
            go_wp2_with fail
            clear y0 z0
            have T2 : Hid (AtS w b w.heap.size s (w10.setCell ⟨w.heap.size, 0, none⟩ (.int .i64 4)) i n d 0 0 4 0 0) := T1.out.put0 HB.out HWg.out 4 (by first | rfl | omega)
            refine (HCg.out _ _ _ _ hil hf T2.out).mono ?_
            rintro e w12 ⟨rfl, hg, hr⟩
            have T3 : Hid (AtS w b w.heap.size s w12 (i + 1) (n + 1) d 0 0 4 0 0) := T2.out.call HB.out hg hr
            clear hg hr T2 
            go_wp2_with fail
            refine (HQ.out _ (i + 1) _ _ _ _ (by omega) T3.out).mono ?_
            rintro e w13 ⟨hg, z, rfl, hr⟩
            rw [hpl, if_pos rfl, hix] at hr
            obtain ⟨rfl, hr⟩ := hr
            have T4 : Hid (AtS w b w.heap.size s w13 (i + 2) (n + 1) d 0 0 4 0 0) := T3.out.call HB.out hg hr
            clear hg hr T3
            have y4 := T4.out.nb.c4
            have z4 := T4.out.nb.f 4
            have T5 : Hid (AtS w b w.heap.size s (w13.setCell ⟨w.heap.size, 4, none⟩ (.int .i64 (q : Int))) (i + 2) (n + 1) d 0 0 4 (q : Int) 0) := T4.out.put4 HB.out HWg.out (q : Int)
            go_wp2_with fail
            go_ret
            exact T5.out.good HWg.out rfl
          · go_enter Try.func34, Try.ntmps34
            go_wp2_with fail
            rw [← HW0.out]
            clear HW0
            refine (HP.out _ _ _ _ S0.out).mono ?_
            rintro e w10 ⟨rfl, hg⟩
            have T1 : Hid (AtS w b w.heap.size s w10 i n d 0 0 0 0 0) := S0.out.idle HB.out hg
            clear hg S0
            have y0 := T1.out.nb.c0
            have z0 := T1.out.nb.f 0
            go_wp2_with fail
            clear y0 z0
            have T2 : Hid (AtS w b w.heap.size s (w10.setCell ⟨w.heap.size, 0, none⟩ (.int .i64 5)) i n d 0 0 5 0 0) := T1.out.put0 HB.out HWg.out 5 (by first | rfl | omega)
            refine (HCg.out _ _ _ _ hil hf T2.out).mono ?_
            rintro e w12 ⟨rfl, hg, hr⟩
            have T3 : Hid (AtS w b w.heap.size s w12 (i + 1) (n + 1) d 0 0 5 0 0) := T2.out.call HB.out hg hr
            clear hg hr T2 
            go_wp2_with fail
            refine (HQ.out _ (i + 1) _ _ _ _ (by omega) T3.out).mono ?_
            rintro e w13 ⟨hg, z, rfl, hr⟩
            rw [hpl, if_pos rfl, hix] at hr
            obtain ⟨rfl, hr⟩ := hr
            have T4 : Hid (AtS w b w.heap.size s w13 (i + 2) (n + 1) d 0 0 5 0 0) := T3.out.call HB.out hg hr
            clear hg hr T3
            have y4 := T4.out.nb.c4
            have z4 := T4.out.nb.f 4
            have T5 : Hid (AtS w b w.heap.size s (w13.setCell ⟨w.heap.size, 4, none⟩ (.int .i64 (q : Int))) (i + 2) (n + 1) d 0 0 5 (q : Int) 0) := T4.out.put4 HB.out HWg.out (q : Int)
            go_wp2_with fail
            go_ret
            exact T5.out.good HWg.out rfl
      | false =>
        simp only [Bool.false_eq_true, if_false]
        rcases hA with rfl | rfl
        · go_enter Try.func34, Try.ntmps34
          go_wp2_with fail
          rw [← HW0.out]
          clear HW0
          refine (HP.out _ _ _ _ S0.out).mono ?_
          rintro e w10 ⟨rfl, hg⟩
          have T1 : Hid (AtS w b w.heap.size s w10 i n d 0 0 0 0 0) := S0.out.idle HB.out hg
          clear hg S0
          have y0 := T1.out.nb.c0
          have z0 := T1.out.nb.f 0
          go_wp2_with fail
          clear y0 z0
          have T2 : Hid (AtS w b w.heap.size s (w10.setCell ⟨w.heap.size, 0, none⟩ (.int .i64 4)) i n d 0 0 4 0 0) := T1.out.put0 HB.out HWg.out 4 (by first | rfl | omega)
          refine (HCg.out _ _ _ _ hil hf T2.out).mono ?_
          rintro e w12 ⟨rfl, hg, hr⟩
          have T3 : Hid (AtS w b w.heap.size s w12 (i + 1) (n + 1) d 0 0 4 0 0) := T2.out.call HB.out hg hr
          clear hg hr T2 
          go_wp2_with fail
          refine (HQ.out _ (i + 1) _ _ _ _ (by omega) T3.out).mono ?_
          rintro e w13 ⟨hg, z, rfl, hr⟩
          rw [hpl, if_neg (by simp)] at hr
          have T4 : Hid (AtS w b w.heap.size s w13 s.size (n + 1) d 4 (i + 1) 4 0 0) := T3.out.call HB.out hg hr
          clear hg hr T3
          have y4 := T4.out.nb.c4
          have z4 := T4.out.nb.f 4
          have T5 : Hid (AtS w b w.heap.size s (w13.setCell ⟨w.heap.size, 4, none⟩ (.int .i64 z)) s.size (n + 1) d 4 (i + 1) 4 z 0) := T4.out.put4 HB.out HWg.out z
          go_wp2_with fail
          go_ret
          exact T5.out.bad HWg.out (by omega)
        · go_enter Try.func34, Try.ntmps34
          go_wp2_with fail
          rw [← HW0.out]
          clear HW0
          refine (HP.out _ _ _ _ S0.out).mono ?_
          rintro e w10 ⟨rfl, hg⟩
          have T1 : Hid (AtS w b w.heap.size s w10 i n d 0 0 0 0 0) := S0.out.idle HB.out hg
          clear hg S0
          have y0 := T1.out.nb.c0
          have z0 := T1.out.nb.f 0
          go_wp2_with fail
          clear y0 z0
          have T2 : Hid (AtS w b w.heap.size s (w10.setCell ⟨w.heap.size, 0, none⟩ (.int .i64 5)) i n d 0 0 5 0 0) := T1.out.put0 HB.out HWg.out 5 (by first | rfl | omega)
          refine (HCg.out _ _ _ _ hil hf T2.out).mono ?_
          rintro e w12 ⟨rfl, hg, hr⟩
          have T3 : Hid (AtS w b w.heap.size s w12 (i + 1) (n + 1) d 0 0 5 0 0) := T2.out.call HB.out hg hr
          clear hg hr T2 
          go_wp2_with fail
          refine (HQ.out _ (i + 1) _ _ _ _ (by omega) T3.out).mono ?_
          rintro e w13 ⟨hg, z, rfl, hr⟩
          rw [hpl, if_neg (by simp)] at hr
          have T4 : Hid (AtS w b w.heap.size s w13 s.size (n + 1) d 4 (i + 1) 5 0 0) := T3.out.call HB.out hg hr
          clear hg hr T3
          have y4 := T4.out.nb.c4
          have z4 := T4.out.nb.f 4
          have T5 : Hid (AtS w b w.heap.size s (w13.setCell ⟨w.heap.size, 4, none⟩ (.int .i64 z)) s.size (n + 1) d 4 (i + 1) 5 z 0) := T4.out.put4 HB.out HWg.out z
          go_wp2_with fail
          go_ret
          exact T5.out.bad HWg.out (by omega)
  · rw [if_neg hA]
    have k97 : ((c : Int) == 97) = false := by simp; omega
    have k98 : ((c : Int) == 98) = false := by simp; omega
    by_cases hse : isSe c = true
    · rw [if_pos hse]
      have hil : i < s.size := HI.out (isSe_pos hse)
      clear HPl HR HRs
      cases hix : idxF sc c with
      | none =>
        simp only
        go_enter Try.func34, Try.ntmps34
        go_wp2_with fail
        rw [← HW0.out]
        clear HW0
        refine (HP.out _ _ _ _ S0.out).mono ?_
        rintro e w10 ⟨rfl, hg⟩
        have T1 : Hid (AtS w b w.heap.size s w10 i n d 0 0 0 0 0) := S0.out.idle HB.out hg
        clear hg S0
        go_wp2_with fail
        refine (HSe.out _).mono ?_
        rintro e wq ⟨rfl, rfl⟩
        rw [hse]
        go_wp2_with fail
        refine (HNn.out _ _ _ _ hix T1.out).mono ?_
        rintro e w11 ⟨rfl, hg, hr⟩
        have T2 : Hid (AtS w b w.heap.size s w11 s.size n d 5 i 0 0 0) := T1.out.call HB.out hg hr
        clear hg hr T1 
        have y0 := T2.out.nb.c0
        have z0 := T2.out.nb.f 0
        have T3 : Hid (AtS w b w.heap.size s (w11.setCell ⟨w.heap.size, 0, none⟩ (.int .i64 9)) s.size n d 5 i 9 0 0) := T2.out.put0 HB.out HWg.out 9 (by first | rfl | omega)
        have y5 := T3.out.nb.c5
        have z5 := T3.out.nb.f 5
        have T4 : Hid (AtS w b w.heap.size s ((w11.setCell ⟨w.heap.size, 0, none⟩ (.int .i64 9)).setCell ⟨w.heap.size, 5, none⟩ (.int .i64 (-1))) s.size n d 5 i 9 0 (-1)) := T3.out.put5 HB.out HWg.out (-1)
        go_wp2_with fail
        refine (HCs.out _ _ _ _ 5 _ (by omega) T4.out).mono ?_
        rintro e w14 ⟨rfl, hg, hr⟩
        have T5 : Hid (AtS w b w.heap.size s w14 s.size (n + 1) d 5 i 9 0 (-1)) := T4.out.call HB.out hg hr
        clear hg hr T4 
        go_wp2_with fail
        refine (HQs.out _ _ _ _ _ 5 _ (by omega) T5.out).mono ?_
        rintro e w15 ⟨⟨z, rfl⟩, hg, hr⟩
        have T6 : Hid (AtS w b w.heap.size s w15 s.size (n + 1) d 5 i 9 0 (-1)) := T5.out.call HB.out hg hr
        clear hg hr T5 
        have y4 := T6.out.nb.c4
        have z4 := T6.out.nb.f 4
        have T7 : Hid (AtS w b w.heap.size s (w15.setCell ⟨w.heap.size, 4, none⟩ (.int .i64 z)) s.size (n + 1) d 5 i 9 z (-1)) := T6.out.put4 HB.out HWg.out z
        go_wp2_with fail
        go_ret
        exact T7.out.bad HWg.out (by omega)
      | some q =>
        simp only
        by_cases hf : 30 < n + 1
        · rw [if_pos hf]
          go_enter Try.func34, Try.ntmps34
          go_wp2_with fail
          rw [← HW0.out]
          clear HW0
          refine (HP.out _ _ _ _ S0.out).mono ?_
          rintro e w10 ⟨rfl, hg⟩
          have T1 : Hid (AtS w b w.heap.size s w10 i n d 0 0 0 0 0) := S0.out.idle HB.out hg
          clear hg S0
          go_wp2_with fail
          refine (HSe.out _).mono ?_
          rintro e wq ⟨rfl, rfl⟩
          rw [hse]
          go_wp2_with fail
          refine (HNs.out _ q _ _ _ hix T1.out).mono ?_
          rintro e w11 ⟨rfl, hg⟩
          have T2 : Hid (AtS w b w.heap.size s w11 i n d 0 0 0 0 0) := T1.out.idle HB.out hg
          clear hg T1
          have y0 := T2.out.nb.c0
          have z0 := T2.out.nb.f 0
          have T3 : Hid (AtS w b w.heap.size s (w11.setCell ⟨w.heap.size, 0, none⟩ (.int .i64 9)) i n d 0 0 9 0 0) := T2.out.put0 HB.out HWg.out 9 (by first | rfl | omega)
          have y5 := T3.out.nb.c5
          have z5 := T3.out.nb.f 5
          have T4 : Hid (AtS w b w.heap.size s ((w11.setCell ⟨w.heap.size, 0, none⟩ (.int .i64 9)).setCell ⟨w.heap.size, 5, none⟩ (.int .i64 (q : Int))) i n d 0 0 9 0 (q : Int)) := T3.out.put5 HB.out HWg.out (q : Int)
          go_wp2_with fail
          refine (HCf.out _ _ _ _ hf T4.out).mono ?_
          rintro e w14 ⟨rfl, hg, hr⟩
          have T5 : Hid (AtS w b w.heap.size s w14 s.size (n + 1) d 7 i 9 0 (q : Int)) := T4.out.call HB.out hg hr
          clear hg hr T4 
          go_wp2_with fail
          refine (HQs.out _ _ _ _ _ 7 _ (by omega) T5.out).mono ?_
          rintro e w15 ⟨⟨z, rfl⟩, hg, hr⟩
          have T6 : Hid (AtS w b w.heap.size s w15 s.size (n + 1) d 7 i 9 0 (q : Int)) := T5.out.call HB.out hg hr
          clear hg hr T5 
          have y4 := T6.out.nb.c4
          have z4 := T6.out.nb.f 4
          have T7 : Hid (AtS w b w.heap.size s (w15.setCell ⟨w.heap.size, 4, none⟩ (.int .i64 z)) s.size (n + 1) d 7 i 9 z (q : Int)) := T6.out.put4 HB.out HWg.out z
          go_wp2_with fail
          go_ret
          exact T7.out.bad HWg.out (by omega)
        · rw [if_neg hf]
          unfold placeK
          cases hpl : isPl (byT s (i + 1)) with
          | true =>
            simp only [if_true]
            cases hix2 : idxF sc (byT s (i + 1)) with
            | none =>
              simp only
              go_enter Try.func34, Try.ntmps34
              go_wp2_with fail
              rw [← HW0.out]
              clear HW0
              refine (HP.out _ _ _ _ S0.out).mono ?_
              rintro e w10 ⟨rfl, hg⟩
              have T1 : Hid (AtS w b w.heap.size s w10 i n d 0 0 0 0 0) := S0.out.idle HB.out hg
              clear hg S0
              go_wp2_with fail
              refine (HSe.out _).mono ?_
              rintro e wq ⟨rfl, rfl⟩
              rw [hse]
              go_wp2_with fail
              refine (HNs.out _ q _ _ _ hix T1.out).mono ?_
              rintro e w11 ⟨rfl, hg⟩
              have T2 : Hid (AtS w b w.heap.size s w11 i n d 0 0 0 0 0) := T1.out.idle HB.out hg
              clear hg T1
              have y0 := T2.out.nb.c0
              have z0 := T2.out.nb.f 0
              have T3 : Hid (AtS w b w.heap.size s (w11.setCell ⟨w.heap.size, 0, none⟩ (.int .i64 9)) i n d 0 0 9 0 0) := T2.out.put0 HB.out HWg.out 9 (by first | rfl | omega)
              have y5 := T3.out.nb.c5
              have z5 := T3.out.nb.f 5
              have T4 : Hid (AtS w b w.heap.size s ((w11.setCell ⟨w.heap.size, 0, none⟩ (.int .i64 9)).setCell ⟨w.heap.size, 5, none⟩ (.int .i64 (q : Int))) i n d 0 0 9 0 (q : Int)) := T3.out.put5 HB.out HWg.out (q : Int)
              go_wp2_with fail
              refine (HCg.out _ _ _ _ hil hf T4.out).mono ?_
              rintro e w14 ⟨rfl, hg, hr⟩
              have T5 : Hid (AtS w b w.heap.size s w14 (i + 1) (n + 1) d 0 0 9 0 (q : Int)) := T4.out.call HB.out hg hr
              clear hg hr T4 
              go_wp2_with fail
              refine (HQ.out _ (i + 1) _ _ _ _ (by omega) T5.out).mono ?_
              rintro e w15 ⟨hg, z, rfl, hr⟩
              rw [hpl, if_pos rfl, hix2] at hr
              simp only at hr
              have T6 : Hid (AtS w b w.heap.size s w15 s.size (n + 1) d 5 (i + 1) 9 0 (q : Int)) := T5.out.call HB.out hg hr
              clear hg hr T5
              have y4 := T6.out.nb.c4
              have z4 := T6.out.nb.f 4
              have T7 : Hid (AtS w b w.heap.size s (w15.setCell ⟨w.heap.size, 4, none⟩ (.int .i64 z)) s.size (n + 1) d 5 (i + 1) 9 z (q : Int)) := T6.out.put4 HB.out HWg.out z
              go_wp2_with fail
              go_ret
              exact T7.out.bad HWg.out (by omega)
            | some q2 =>
              simp only
              go_enter Try.func34, Try.ntmps34
              go_wp2_with fail
              rw [← HW0.out]
              clear HW0
              refine (HP.out _ _ _ _ S0.out).mono ?_
              rintro e w10 ⟨rfl, hg⟩
              have T1 : Hid (AtS w b w.heap.size s w10 i n d 0 0 0 0 0) := S0.out.idle HB.out hg
              clear hg S0
              go_wp2_with fail
              refine (HSe.out _).mono ?_
              rintro e wq ⟨rfl, rfl⟩
              rw [hse]
              go_wp2_with fail
              refine (HNs.out _ q _ _ _ hix T1.out).mono ?_
              rintro e w11 ⟨rfl, hg⟩
              have T2 : Hid (AtS w b w.heap.size s w11 i n d 0 0 0 0 0) := T1.out.idle HB.out hg
              clear hg T1
              have y0 := T2.out.nb.c0
              have z0 := T2.out.nb.f 0
              have T3 : Hid (AtS w b w.heap.size s (w11.setCell ⟨w.heap.size, 0, none⟩ (.int .i64 9)) i n d 0 0 9 0 0) := T2.out.put0 HB.out HWg.out 9 (by first | rfl | omega)
              have y5 := T3.out.nb.c5
              have z5 := T3.out.nb.f 5
              have T4 : Hid (AtS w b w.heap.size s ((w11.setCell ⟨w.heap.size, 0, none⟩ (.int .i64 9)).setCell ⟨w.heap.size, 5, none⟩ (.int .i64 (q : Int))) i n d 0 0 9 0 (q : Int)) := T3.out.put5 HB.out HWg.out (q : Int)
              go_wp2_with fail
              refine (HCg.out _ _ _ _ hil hf T4.out).mono ?_
              rintro e w14 ⟨rfl, hg, hr⟩
              have T5 : Hid (AtS w b w.heap.size s w14 (i + 1) (n + 1) d 0 0 9 0 (q : Int)) := T4.out.call HB.out hg hr
              clear hg hr T4 
              go_wp2_with fail
              refine (HQ.out _ (i + 1) _ _ _ _ (by omega) T5.out).mono ?_
              rintro e w15 ⟨hg, z, rfl, hr⟩
              rw [hpl, if_pos rfl, hix2] at hr
              obtain ⟨rfl, hr⟩ := hr
              have T6 : Hid (AtS w b w.heap.size s w15 (i + 2) (n + 1) d 0 0 9 0 (q : Int)) := T5.out.call HB.out hg hr
              clear hg hr T5
              have y4 := T6.out.nb.c4
              have z4 := T6.out.nb.f 4
              have T7 : Hid (AtS w b w.heap.size s (w15.setCell ⟨w.heap.size, 4, none⟩ (.int .i64 (q2 : Int))) (i + 2) (n + 1) d 0 0 9 (q2 : Int) (q : Int)) := T6.out.put4 HB.out HWg.out (q2 : Int)
              go_wp2_with fail
              go_ret
              exact T7.out.good HWg.out rfl
          | false =>
            simp only [Bool.false_eq_true, if_false]
            go_enter Try.func34, Try.ntmps34
            go_wp2_with fail
            rw [← HW0.out]
            clear HW0
            refine (HP.out _ _ _ _ S0.out).mono ?_
            rintro e w10 ⟨rfl, hg⟩
            have T1 : Hid (AtS w b w.heap.size s w10 i n d 0 0 0 0 0) := S0.out.idle HB.out hg
            clear hg S0
            go_wp2_with fail
            refine (HSe.out _).mono ?_
            rintro e wq ⟨rfl, rfl⟩
            rw [hse]
            go_wp2_with fail
            refine (HNs.out _ q _ _ _ hix T1.out).mono ?_
            rintro e w11 ⟨rfl, hg⟩
            have T2 : Hid (AtS w b w.heap.size s w11 i n d 0 0 0 0 0) := T1.out.idle HB.out hg
            clear hg T1
            have y0 := T2.out.nb.c0
            have z0 := T2.out.nb.f 0
            have T3 : Hid (AtS w b w.heap.size s (w11.setCell ⟨w.heap.size, 0, none⟩ (.int .i64 9)) i n d 0 0 9 0 0) := T2.out.put0 HB.out HWg.out 9 (by first | rfl | omega)
            have y5 := T3.out.nb.c5
            have z5 := T3.out.nb.f 5
            have T4 : Hid (AtS w b w.heap.size s ((w11.setCell ⟨w.heap.size, 0, none⟩ (.int .i64 9)).setCell ⟨w.heap.size, 5, none⟩ (.int .i64 (q : Int))) i n d 0 0 9 0 (q : Int)) := T3.out.put5 HB.out HWg.out (q : Int)
            go_wp2_with fail
            refine (HCg.out _ _ _ _ hil hf T4.out).mono ?_
            rintro e w14 ⟨rfl, hg, hr⟩
            have T5 : Hid (AtS w b w.heap.size s w14 (i + 1) (n + 1) d 0 0 9 0 (q : Int)) := T4.out.call HB.out hg hr
            clear hg hr T4 
            go_wp2_with fail
            refine (HQ.out _ (i + 1) _ _ _ _ (by omega) T5.out).mono ?_
            rintro e w15 ⟨hg, z, rfl, hr⟩
            rw [hpl, if_neg (by simp)] at hr
            have T6 : Hid (AtS w b w.heap.size s w15 s.size (n + 1) d 4 (i + 1) 9 0 (q : Int)) := T5.out.call HB.out hg hr
            clear hg hr T5
            have y4 := T6.out.nb.c4
            have z4 := T6.out.nb.f 4
            have T7 : Hid (AtS w b w.heap.size s (w15.setCell ⟨w.heap.size, 4, none⟩ (.int .i64 z)) s.size (n + 1) d 4 (i + 1) 9 z (q : Int)) := T6.out.put4 HB.out HWg.out z
            go_wp2_with fail
            go_ret
            exact T7.out.bad HWg.out (by omega)
    · rw [if_neg hse]
      have hse' : isSe c = false := by simpa using hse
      by_cases hpl0 : isPl c = true
      · rw [if_pos hpl0]
        have hil : i < s.size := HI.out (isPl_pos hpl0)
        cases hix : idxF sc c with
        | none =>
          simp only
          go_enter Try.func34, Try.ntmps34
          go_wp2_with fail
          rw [← HW0.out]
          clear HW0
          refine (HP.out _ _ _ _ S0.out).mono ?_
          rintro e w10 ⟨rfl, hg⟩
          have T1 : Hid (AtS w b w.heap.size s w10 i n d 0 0 0 0 0) := S0.out.idle HB.out hg
          clear hg S0
          go_wp2_with fail
          refine (HSe.out _).mono ?_
          rintro e wq ⟨rfl, rfl⟩
          rw [hse']
          go_wp2_with fail
          refine (HPl.out _).mono ?_
          rintro e wq ⟨rfl, rfl⟩
          rw [hpl0]
          go_wp2_with fail
          refine (HNn.out _ _ _ _ hix T1.out).mono ?_
          rintro e w11 ⟨rfl, hg, hr⟩
          have T2 : Hid (AtS w b w.heap.size s w11 s.size n d 5 i 0 0 0) := T1.out.call HB.out hg hr
          clear hg hr T1 
          have y4 := T2.out.nb.c4
          have z4 := T2.out.nb.f 4
          have T3 : Hid (AtS w b w.heap.size s (w11.setCell ⟨w.heap.size, 4, none⟩ (.int .i64 (-1))) s.size n d 5 i 0 (-1) 0) := T2.out.put4 HB.out HWg.out (-1)
          go_wp2_with fail
          refine (HCs.out _ _ _ _ 5 _ (by omega) T3.out).mono ?_
          rintro e w13 ⟨rfl, hg, hr⟩
          have T4 : Hid (AtS w b w.heap.size s w13 s.size (n + 1) d 5 i 0 (-1) 0) := T3.out.call HB.out hg hr
          clear hg hr T3 
          go_wp2_with fail
          refine (HRs.out _ _ _ _ _ 5 _ (by omega) T4.out).mono ?_
          rintro e w14 ⟨⟨zr, rfl⟩, hg, hr⟩
          have T5 : Hid (AtS w b w.heap.size s w14 s.size (n + 1) d 5 i 0 (-1) 0) := T4.out.call HB.out hg hr
          clear hg hr T4 
          have y0 := T5.out.nb.c0
          have z0 := T5.out.nb.f 0
          have T6 : Hid (AtS w b w.heap.size s (w14.setCell ⟨w.heap.size, 0, none⟩ (.int .i64 (zr : Int))) s.size (n + 1) d 5 i zr (-1) 0) := T5.out.put0 HB.out HWg.out zr (by first | rfl | omega)
          go_wp2_with fail
          refine (HQs.out _ _ _ _ _ 5 _ (by omega) T6.out).mono ?_
          rintro e w16 ⟨⟨z, rfl⟩, hg, hr⟩
          have T7 : Hid (AtS w b w.heap.size s w16 s.size (n + 1) d 5 i zr (-1) 0) := T6.out.call HB.out hg hr
          clear hg hr T6 
          have y5 := T7.out.nb.c5
          have z5 := T7.out.nb.f 5
          have T8 : Hid (AtS w b w.heap.size s (w16.setCell ⟨w.heap.size, 5, none⟩ (.int .i64 z)) s.size (n + 1) d 5 i zr (-1) z) := T7.out.put5 HB.out HWg.out z
          go_wp2_with fail
          go_ret
          exact T8.out.bad HWg.out (by omega)
        | some q =>
          simp only
          by_cases hf : 30 < n + 1
          · rw [if_pos hf]
            go_enter Try.func34, Try.ntmps34
            go_wp2_with fail
            rw [← HW0.out]
            clear HW0
            refine (HP.out _ _ _ _ S0.out).mono ?_
            rintro e w10 ⟨rfl, hg⟩
            have T1 : Hid (AtS w b w.heap.size s w10 i n d 0 0 0 0 0) := S0.out.idle HB.out hg
            clear hg S0
            go_wp2_with fail
            refine (HSe.out _).mono ?_
            rintro e wq ⟨rfl, rfl⟩
            rw [hse']
            go_wp2_with fail
            refine (HPl.out _).mono ?_
            rintro e wq ⟨rfl, rfl⟩
            rw [hpl0]
            go_wp2_with fail
            refine (HNs.out _ q _ _ _ hix T1.out).mono ?_
            rintro e w11 ⟨rfl, hg⟩
            have T2 : Hid (AtS w b w.heap.size s w11 i n d 0 0 0 0 0) := T1.out.idle HB.out hg
            clear hg T1
            have y4 := T2.out.nb.c4
            have z4 := T2.out.nb.f 4
            have T3 : Hid (AtS w b w.heap.size s (w11.setCell ⟨w.heap.size, 4, none⟩ (.int .i64 (q : Int))) i n d 0 0 0 (q : Int) 0) := T2.out.put4 HB.out HWg.out (q : Int)
            go_wp2_with fail
            refine (HCf.out _ _ _ _ hf T3.out).mono ?_
            rintro e w13 ⟨rfl, hg, hr⟩
            have T4 : Hid (AtS w b w.heap.size s w13 s.size (n + 1) d 7 i 0 (q : Int) 0) := T3.out.call HB.out hg hr
            clear hg hr T3 
            go_wp2_with fail
            refine (HRs.out _ _ _ _ _ 7 _ (by omega) T4.out).mono ?_
            rintro e w14 ⟨⟨zr, rfl⟩, hg, hr⟩
            have T5 : Hid (AtS w b w.heap.size s w14 s.size (n + 1) d 7 i 0 (q : Int) 0) := T4.out.call HB.out hg hr
            clear hg hr T4 
            have y0 := T5.out.nb.c0
            have z0 := T5.out.nb.f 0
            have T6 : Hid (AtS w b w.heap.size s (w14.setCell ⟨w.heap.size, 0, none⟩ (.int .i64 (zr : Int))) s.size (n + 1) d 7 i zr (q : Int) 0) := T5.out.put0 HB.out HWg.out zr (by first | rfl | omega)
            go_wp2_with fail
            refine (HQs.out _ _ _ _ _ 7 _ (by omega) T6.out).mono ?_
            rintro e w16 ⟨⟨z, rfl⟩, hg, hr⟩
            have T7 : Hid (AtS w b w.heap.size s w16 s.size (n + 1) d 7 i zr (q : Int) 0) := T6.out.call HB.out hg hr
            clear hg hr T6 
            have y5 := T7.out.nb.c5
            have z5 := T7.out.nb.f 5
            have T8 : Hid (AtS w b w.heap.size s (w16.setCell ⟨w.heap.size, 5, none⟩ (.int .i64 z)) s.size (n + 1) d 7 i zr (q : Int) z) := T7.out.put5 HB.out HWg.out z
            go_wp2_with fail
            go_ret
            exact T8.out.bad HWg.out (by omega)
          · rw [if_neg hf]
            by_cases hrl : byT s (i + 1) = 60 ∨ byT s (i + 1) = 61 ∨ byT s (i + 1) = 126
            · rw [if_pos hrl]
              have hil2 : i + 1 < s.size := by rcases hrl with h | h | h <;> exact byT_pos h (by omega)
              unfold placeK
              cases hpl : isPl (byT s (i + 2)) with
              | true =>
                simp only [if_true]
                cases hix2 : idxF sc (byT s (i + 2)) with
                | none =>
                  simp only
                  go_enter Try.func34, Try.ntmps34
                  go_wp2_with fail
                  rw [← HW0.out]
                  clear HW0
                  refine (HP.out _ _ _ _ S0.out).mono ?_
                  rintro e w10 ⟨rfl, hg⟩
                  have T1 : Hid (AtS w b w.heap.size s w10 i n d 0 0 0 0 0) := S0.out.idle HB.out hg
                  clear hg S0
                  go_wp2_with fail
                  refine (HSe.out _).mono ?_
                  rintro e wq ⟨rfl, rfl⟩
                  rw [hse']
                  go_wp2_with fail
                  refine (HPl.out _).mono ?_
                  rintro e wq ⟨rfl, rfl⟩
                  rw [hpl0]
                  go_wp2_with fail
                  refine (HNs.out _ q _ _ _ hix T1.out).mono ?_
                  rintro e w11 ⟨rfl, hg⟩
                  have T2 : Hid (AtS w b w.heap.size s w11 i n d 0 0 0 0 0) := T1.out.idle HB.out hg
                  clear hg T1
                  have y4 := T2.out.nb.c4
                  have z4 := T2.out.nb.f 4
                  have T3 : Hid (AtS w b w.heap.size s (w11.setCell ⟨w.heap.size, 4, none⟩ (.int .i64 (q : Int))) i n d 0 0 0 (q : Int) 0) := T2.out.put4 HB.out HWg.out (q : Int)
                  go_wp2_with fail
                  refine (HCg.out _ _ _ _ hil hf T3.out).mono ?_
                  rintro e w13 ⟨rfl, hg, hr⟩
                  have T4 : Hid (AtS w b w.heap.size s w13 (i + 1) (n + 1) d 0 0 0 (q : Int) 0) := T3.out.call HB.out hg hr
                  clear hg hr T3 
                  go_wp2_with fail
                  refine (HR.out _ (i + 1) _ _ _ _ (by omega) T4.out).mono ?_
                  rintro e w14 ⟨hg, zr, rfl, hr⟩
                  rw [if_pos hrl] at hr
                  obtain ⟨hzr, hr⟩ := hr
                  have HZR : Hid (zr = reK (byT s (i + 1))) := hzr
                  clear hzr
                  have T5 : Hid (AtS w b w.heap.size s w14 (i + 2) (n + 1) d 0 0 0 (q : Int) 0) := T4.out.call HB.out hg hr
                  clear hg hr T4
                  have y0 := T5.out.nb.c0
                  have z0 := T5.out.nb.f 0
                  have T6 : Hid (AtS w b w.heap.size s (w14.setCell ⟨w.heap.size, 0, none⟩ (.int .i64 (zr : Int))) (i + 2) (n + 1) d 0 0 zr (q : Int) 0) := T5.out.put0 HB.out HWg.out zr (by first | rfl | omega)
                  go_wp2_with fail
                  refine (HQ.out _ (i + 2) _ _ _ _ (by omega) T6.out).mono ?_
                  rintro e w16 ⟨hg, z, rfl, hr⟩
                  rw [hpl, if_pos rfl, hix2] at hr
                  simp only at hr
                  have T7 : Hid (AtS w b w.heap.size s w16 s.size (n + 1) d 5 (i + 2) zr (q : Int) 0) := T6.out.call HB.out hg hr
                  clear hg hr T6
                  have y5 := T7.out.nb.c5
                  have z5 := T7.out.nb.f 5
                  have T8 : Hid (AtS w b w.heap.size s (w16.setCell ⟨w.heap.size, 5, none⟩ (.int .i64 z)) s.size (n + 1) d 5 (i + 2) zr (q : Int) z) := T7.out.put5 HB.out HWg.out z
                  go_wp2_with fail
                  go_ret
                  exact T8.out.bad HWg.out (by omega)
                | some q2 =>
                  simp only
                  go_enter Try.func34, Try.ntmps34
                  go_wp2_with fail
                  rw [← HW0.out]
                  clear HW0
                  refine (HP.out _ _ _ _ S0.out).mono ?_
                  rintro e w10 ⟨rfl, hg⟩
                  have T1 : Hid (AtS w b w.heap.size s w10 i n d 0 0 0 0 0) := S0.out.idle HB.out hg
                  clear hg S0
                  go_wp2_with fail
                  refine (HSe.out _).mono ?_
                  rintro e wq ⟨rfl, rfl⟩
                  rw [hse']
                  go_wp2_with fail
                  refine (HPl.out _).mono ?_
                  rintro e wq ⟨rfl, rfl⟩
                  rw [hpl0]
                  go_wp2_with fail
                  refine (HNs.out _ q _ _ _ hix T1.out).mono ?_
                  rintro e w11 ⟨rfl, hg⟩
                  have T2 : Hid (AtS w b w.heap.size s w11 i n d 0 0 0 0 0) := T1.out.idle HB.out hg
                  clear hg T1
                  have y4 := T2.out.nb.c4
                  have z4 := T2.out.nb.f 4
                  have T3 : Hid (AtS w b w.heap.size s (w11.setCell ⟨w.heap.size, 4, none⟩ (.int .i64 (q : Int))) i n d 0 0 0 (q : Int) 0) := T2.out.put4 HB.out HWg.out (q : Int)
                  go_wp2_with fail
                  refine (HCg.out _ _ _ _ hil hf T3.out).mono ?_
                  rintro e w13 ⟨rfl, hg, hr⟩
                  have T4 : Hid (AtS w b w.heap.size s w13 (i + 1) (n + 1) d 0 0 0 (q : Int) 0) := T3.out.call HB.out hg hr
                  clear hg hr T3 
                  go_wp2_with fail
                  refine (HR.out _ (i + 1) _ _ _ _ (by omega) T4.out).mono ?_
                  rintro e w14 ⟨hg, zr, rfl, hr⟩
                  rw [if_pos hrl] at hr
                  obtain ⟨hzr, hr⟩ := hr
                  have HZR : Hid (zr = reK (byT s (i + 1))) := hzr
                  clear hzr
                  have T5 : Hid (AtS w b w.heap.size s w14 (i + 2) (n + 1) d 0 0 0 (q : Int) 0) := T4.out.call HB.out hg hr
                  clear hg hr T4
                  have y0 := T5.out.nb.c0
                  have z0 := T5.out.nb.f 0
                  have T6 : Hid (AtS w b w.heap.size s (w14.setCell ⟨w.heap.size, 0, none⟩ (.int .i64 (zr : Int))) (i + 2) (n + 1) d 0 0 zr (q : Int) 0) := T5.out.put0 HB.out HWg.out zr (by first | rfl | omega)
                  go_wp2_with fail
                  refine (HQ.out _ (i + 2) _ _ _ _ (by omega) T6.out).mono ?_
                  rintro e w16 ⟨hg, z, rfl, hr⟩
                  rw [hpl, if_pos rfl, hix2] at hr
                  obtain ⟨rfl, hr⟩ := hr
                  have T7 : Hid (AtS w b w.heap.size s w16 (i + 3) (n + 1) d 0 0 zr (q : Int) 0) := T6.out.call HB.out hg hr
                  clear hg hr T6
                  have y5 := T7.out.nb.c5
                  have z5 := T7.out.nb.f 5
                  have T8 : Hid (AtS w b w.heap.size s (w16.setCell ⟨w.heap.size, 5, none⟩ (.int .i64 (q2 : Int))) (i + 3) (n + 1) d 0 0 zr (q : Int) (q2 : Int)) := T7.out.put5 HB.out HWg.out (q2 : Int)
                  go_wp2_with fail
                  go_ret
                  exact T8.out.good HWg.out (by rw [HZR.out]; unfold relF reK; by_cases e1 : byT s (i + 1) = 60 <;> by_cases e2 : byT s (i + 1) = 61 <;> simp [e1, e2, trL])
              | false =>
                simp only [Bool.false_eq_true, if_false]
                go_enter Try.func34, Try.ntmps34
                go_wp2_with fail
                rw [← HW0.out]
                clear HW0
                refine (HP.out _ _ _ _ S0.out).mono ?_
                rintro e w10 ⟨rfl, hg⟩
                have T1 : Hid (AtS w b w.heap.size s w10 i n d 0 0 0 0 0) := S0.out.idle HB.out hg
                clear hg S0
                go_wp2_with fail
                refine (HSe.out _).mono ?_
                rintro e wq ⟨rfl, rfl⟩
                rw [hse']
                go_wp2_with fail
                refine (HPl.out _).mono ?_
                rintro e wq ⟨rfl, rfl⟩
                rw [hpl0]
                go_wp2_with fail
                refine (HNs.out _ q _ _ _ hix T1.out).mono ?_
                rintro e w11 ⟨rfl, hg⟩
                have T2 : Hid (AtS w b w.heap.size s w11 i n d 0 0 0 0 0) := T1.out.idle HB.out hg
                clear hg T1
                have y4 := T2.out.nb.c4
                have z4 := T2.out.nb.f 4
                have T3 : Hid (AtS w b w.heap.size s (w11.setCell ⟨w.heap.size, 4, none⟩ (.int .i64 (q : Int))) i n d 0 0 0 (q : Int) 0) := T2.out.put4 HB.out HWg.out (q : Int)
                go_wp2_with fail
                refine (HCg.out _ _ _ _ hil hf T3.out).mono ?_
                rintro e w13 ⟨rfl, hg, hr⟩
                have T4 : Hid (AtS w b w.heap.size s w13 (i + 1) (n + 1) d 0 0 0 (q : Int) 0) := T3.out.call HB.out hg hr
                clear hg hr T3 
                go_wp2_with fail
                refine (HR.out _ (i + 1) _ _ _ _ (by omega) T4.out).mono ?_
                rintro e w14 ⟨hg, zr, rfl, hr⟩
                rw [if_pos hrl] at hr
                obtain ⟨hzr, hr⟩ := hr
                have HZR : Hid (zr = reK (byT s (i + 1))) := hzr
                clear hzr
                have T5 : Hid (AtS w b w.heap.size s w14 (i + 2) (n + 1) d 0 0 0 (q : Int) 0) := T4.out.call HB.out hg hr
                clear hg hr T4
                have y0 := T5.out.nb.c0
                have z0 := T5.out.nb.f 0
                have T6 : Hid (AtS w b w.heap.size s (w14.setCell ⟨w.heap.size, 0, none⟩ (.int .i64 (zr : Int))) (i + 2) (n + 1) d 0 0 zr (q : Int) 0) := T5.out.put0 HB.out HWg.out zr (by first | rfl | omega)
                go_wp2_with fail
                refine (HQ.out _ (i + 2) _ _ _ _ (by omega) T6.out).mono ?_
                rintro e w16 ⟨hg, z, rfl, hr⟩
                rw [hpl, if_neg (by simp)] at hr
                have T7 : Hid (AtS w b w.heap.size s w16 s.size (n + 1) d 4 (i + 2) zr (q : Int) 0) := T6.out.call HB.out hg hr
                clear hg hr T6
                have y5 := T7.out.nb.c5
                have z5 := T7.out.nb.f 5
                have T8 : Hid (AtS w b w.heap.size s (w16.setCell ⟨w.heap.size, 5, none⟩ (.int .i64 z)) s.size (n + 1) d 4 (i + 2) zr (q : Int) z) := T7.out.put5 HB.out HWg.out z
                go_wp2_with fail
                go_ret
                exact T8.out.bad HWg.out (by omega)
            · rw [if_neg hrl]
              go_enter Try.func34, Try.ntmps34
              go_wp2_with fail
              rw [← HW0.out]
              clear HW0
              refine (HP.out _ _ _ _ S0.out).mono ?_
              rintro e w10 ⟨rfl, hg⟩
              have T1 : Hid (AtS w b w.heap.size s w10 i n d 0 0 0 0 0) := S0.out.idle HB.out hg
              clear hg S0
              go_wp2_with fail
              refine (HSe.out _).mono ?_
              rintro e wq ⟨rfl, rfl⟩
              rw [hse']
              go_wp2_with fail
              refine (HPl.out _).mono ?_
              rintro e wq ⟨rfl, rfl⟩
              rw [hpl0]
              go_wp2_with fail
              refine (HNs.out _ q _ _ _ hix T1.out).mono ?_
              rintro e w11 ⟨rfl, hg⟩
              have T2 : Hid (AtS w b w.heap.size s w11 i n d 0 0 0 0 0) := T1.out.idle HB.out hg
              clear hg T1
              have y4 := T2.out.nb.c4
              have z4 := T2.out.nb.f 4
              have T3 : Hid (AtS w b w.heap.size s (w11.setCell ⟨w.heap.size, 4, none⟩ (.int .i64 (q : Int))) i n d 0 0 0 (q : Int) 0) := T2.out.put4 HB.out HWg.out (q : Int)
              go_wp2_with fail
              refine (HCg.out _ _ _ _ hil hf T3.out).mono ?_
              rintro e w13 ⟨rfl, hg, hr⟩
              have T4 : Hid (AtS w b w.heap.size s w13 (i + 1) (n + 1) d 0 0 0 (q : Int) 0) := T3.out.call HB.out hg hr
              clear hg hr T3 
              go_wp2_with fail
              refine (HR.out _ (i + 1) _ _ _ _ (by omega) T4.out).mono ?_
              rintro e w14 ⟨hg, zr, rfl, hr⟩
              rw [if_neg hrl] at hr
              have T5 : Hid (AtS w b w.heap.size s w14 s.size (n + 1) d 4 (i + 1) 0 (q : Int) 0) := T4.out.call HB.out hg hr
              clear hg hr T4
              have y0 := T5.out.nb.c0
              have z0 := T5.out.nb.f 0
              have T6 : Hid (AtS w b w.heap.size s (w14.setCell ⟨w.heap.size, 0, none⟩ (.int .i64 (zr : Int))) s.size (n + 1) d 4 (i + 1) zr (q : Int) 0) := T5.out.put0 HB.out HWg.out zr (by first | rfl | omega)
              go_wp2_with fail
              refine (HQs.out _ _ _ _ _ 4 _ (by omega) T6.out).mono ?_
              rintro e w16 ⟨⟨z, rfl⟩, hg, hr⟩
              have T7 : Hid (AtS w b w.heap.size s w16 s.size (n + 1) d 4 (i + 1) zr (q : Int) 0) := T6.out.call HB.out hg hr
              clear hg hr T6 
              have y5 := T7.out.nb.c5
              have z5 := T7.out.nb.f 5
              have T8 : Hid (AtS w b w.heap.size s (w16.setCell ⟨w.heap.size, 5, none⟩ (.int .i64 z)) s.size (n + 1) d 4 (i + 1) zr (q : Int) z) := T7.out.put5 HB.out HWg.out z
              go_wp2_with fail
              go_ret
              exact T8.out.bad HWg.out (by omega)
      · rw [if_neg hpl0]
        have hpl' : isPl c = false := by simpa using hpl0
        go_enter Try.func34, Try.ntmps34
        go_wp2_with fail
        rw [← HW0.out]
        clear HW0
        refine (HP.out _ _ _ _ S0.out).mono ?_
        rintro e w10 ⟨rfl, hg⟩
        have T1 : Hid (AtS w b w.heap.size s w10 i n d 0 0 0 0 0) := S0.out.idle HB.out hg
        clear hg S0
        go_wp2_with fail
        refine (HSe.out _).mono ?_
        rintro e wq ⟨rfl, rfl⟩
        rw [hse']
        go_wp2_with fail
        refine (HPl.out _).mono ?_
        rintro e wq ⟨rfl, rfl⟩
        rw [hpl']
        go_wp2_with fail
        refine (failK_first s b i n d 0 4 _ hs T1.out.rd).mono ?_
        rintro e w11 ⟨rfl, hg, hr⟩
        have T2 : Hid (AtS w b w.heap.size s w11 s.size n d 4 i 0 0 0) := T1.out.call HB.out hg hr
        clear hg hr T1 
        go_wp2_with fail
        go_ret
        exact T2.out.bad HWg.out (by omega)

end Go.Proofs.Ytaommgnlnfhbfaa
