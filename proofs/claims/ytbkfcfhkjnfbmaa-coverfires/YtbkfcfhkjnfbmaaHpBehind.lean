/- What a step makes of what the heaps lack: behind. -/
import Derived.Test.YtbkfcfhkjnfbmaaHpArr
namespace Go.Proofs.Ytbkfcfhkjnfbmaa
open Go.RowKit
set_option linter.unusedVariables false
set_option linter.unusedSimpArgs false

/-- Behind the first k heaps of a step. -/
def stpF (f : Nat → Int) (t g : List Int) (k : Nat) : Nat → Int := fun j => if j < k then f j + (t.getD j 0 - g.getD j 0) else f j
theorem stpF_zero (f : Nat → Int) (t g : List Int) : stpF f t g 0 = f := by funext j; simp [stpF]
theorem stpF_at (f : Nat → Int) (t g : List Int) (k : Nat) : stpF f t g k k = f k := by simp [stpF]
/-- One number is written. -/
theorem Arr4.set {b : Nat} {f : Nat → Int} {t g : List Int} {W : World} {k : Nat} (h : Arr4 b (stpF f t g k) W) (hk : k < 4) : Arr4 b (stpF f t g (k + 1)) (W.setCell ⟨b, k, none⟩ (.int .i64 (f k + (t.getD k 0 - g.getD k 0)))) := by
  unfold Arr4 at h ⊢
  rw [heap_setCell_same W b k _ _ _ h]
  have : k = 0 ∨ k = 1 ∨ k = 2 ∨ k = 3 := by omega
  rcases this with rfl | rfl | rfl | rfl <;> simp [stpF]
theorem Arr4.at {b : Nat} {f : Nat → Int} {W : World} (h : Arr4 b f W) {k : Nat} (hk : k < 4) : W.cell? ⟨b, k, none⟩ = some (.int .i64 (f k)) := by
  obtain ⟨h0, h1, h2, h3, _⟩ := h.cells
  have : k = 0 ∨ k = 1 ∨ k = 2 ∨ k = 3 := by omega
  rcases this with rfl | rfl | rfl | rfl <;> assumption

theorem cell_lt {w : World} {a : Addr} {v : Value} (h : w.cell? a = some v) : a.block < w.heap.size := by
  unfold World.cell? at h
  rcases Nat.lt_or_ge a.block w.heap.size with e | e
  · exact e
  · rw [Array.getElem?_eq_none e] at h; cases h

open Classical in
/-- What behind answers. -/
noncomputable def BehP (f : Nat → Int) (t g : List Int) (n : Nat) (w : World) (e : Ending) (w' : World) : Prop :=
  e = .returned (.tuple #[pilV (if ∀ i, i < n → f i + t.getD i 0 ≤ 0 then stpF f t g n else fun _ => 0), .bool (decide (∀ i, i < n → f i + t.getD i 0 ≤ 0))]) ∧ w.grownBy w' none

set_option maxHeartbeats 3200000 in
set_option maxRecDepth 100000 in
theorem behind_any (f : Nat → Int) (x : Hp) (a b : Option Addr) (c d bw k : Nat) (w : World) (hb : BoxH bw x.P a x.T.length c b x.G.length d w) (h : HpAt w x a b) (hG : GoodH x) (hk : k < x.T.length) (hf : ∀ i, -1000 ≤ f i ∧ f i ≤ 1000) :
    Calls Try.prog 15 #[.pointer (some ⟨bw, 0, none⟩), pilV f, .int .i64 k] w (BehP f (x.T.getD k []) (x.G.getD k []) x.P.toNat w) := by
  have hk' : k < x.G.length := by rw [hG.g]; exact hk
  have p1 := hG.p1
  have p4 := hG.p4
  have htl := hG.ts k hk
  have hgl := hG.gs k hk'
  have htw := hG.tw k hk
  have hgw := hG.gw k hk'
  obtain ⟨ba, oa, rfl, hca⟩ := h.t.at hk
  obtain ⟨ya, ca, q1, hz1, _⟩ := hca k hk
  obtain ⟨bb, ob, rfl, hcb⟩ := h.g.at hk'
  obtain ⟨yb, cb, q2, hz2, _⟩ := hcb k hk'
  clear hca hcb h
  obtain ⟨n, hn⟩ : ∃ n, x.P.toNat = n := ⟨_, rfl⟩
  have hP : x.P = n := by omega
  generalize x.T.getD k [] = t at *
  generalize x.G.getD k [] = g at *
  have htn : t.length = n := by omega
  have hgn : g.length = n := by omega
  have hn4 : n ≤ 4 := by omega
  rw [hn]
  have HI : Hid (∀ W, w.grownBy W none → BoxH bw x.P (some ⟨ba, oa, none⟩) x.T.length c (some ⟨bb, ob, none⟩) x.G.length d W ∧ W.cell? ⟨ba, oa + k, none⟩ = some (.slice ya n ca) ∧ W.cell? ⟨bb, ob + k, none⟩ = some (.slice yb n cb) ∧ Ints W ya t ∧ Ints W yb g) := fun W hW => ⟨hb.kept hW, htn ▸ hW.cell q1 (by simp), hgn ▸ hW.cell q2 (by simp), hz1.grown hW, hz2.grown hW⟩
  have HV : Hid (∀ i, i < n → (0 ≤ t.getD i 0 ∧ t.getD i 0 ≤ 2) ∧ (0 ≤ g.getD i 0 ∧ g.getD i 0 ≤ 2) ∧ -1000 ≤ f i ∧ f i ≤ 1000) := fun i hi => ⟨htw i (by omega), hgw i (by omega), hf i⟩
  have HL : Hid (t.length = n ∧ g.length = n) := ⟨htn, hgn⟩
  obtain ⟨P, T, G⟩ := x
  simp only at *
  have mT : (k : Int) < (T.length : Int) := by omega
  have mG : (k : Int) < (G.length : Int) := by omega
  clear hb hG hf htw hgw q1 q2 hz1 hz2 htn hgn htl hgl
  generalize T.length = nT at *
  generalize G.length = nG at *
  obtain ⟨W1, hW1⟩ : ∃ W1, W1 = w.alloc (.cells #[.int .i64 (f 0), .int .i64 (f 1), .int .i64 (f 2), .int .i64 (f 3)] 48) := ⟨_, rfl⟩
  obtain ⟨W2, hW2⟩ : ∃ W2, W2 = W1.alloc (.cells #[.int .i64 0, .int .i64 0, .int .i64 0, .int .i64 0] 48) := ⟨_, rfl⟩
  have s1 : W1.heap.size = w.heap.size + 1 := by rw [hW1]; simp
  have g1 : w.grownBy W1 none := by rw [hW1]; exact grown_alloc _ _
  have g2 : W1.grownBy W2 none := by rw [hW2]; exact grown_alloc _ _
  have A1 : Arr4 w.heap.size f W1 := by rw [hW1]; exact arr4_new w f
  have A2 : Hid (Arr4 (w.heap.size + 1) (fun _ => 0) W2) := by rw [hW2, ← s1]; exact arr4_new W1 fun _ => 0
  have B2 : Hid (Arr4 w.heap.size f W2) := A1.kept g2
  have G2 : Hid (w.grownBy W2 none) := grown_trans g1 g2
  rw [hW1] at hW2
  have HW2 : Hid (W2 = _) := hW2
  obtain ⟨⟨x0, x1, x2⟩, x3, x4, _, _⟩ := HI.out W2 G2.out
  rw [hW2] at x0 x1 x2 x3 x4
  clear hW1 hW2 s1 g1 g2 A1
  go_enter Try.func15, Try.ntmps15
  go_wp2_with fail
  rw [← HW2.out]
  clear x0 x1 x2 x3 x4 HW2
  go_loopw [19] (fun v wr => ∃ i : Nat, v = .int .i64 i ∧ i ≤ n ∧ w.grownBy wr none ∧ Arr4 w.heap.size (stpF f t g i) wr ∧ Arr4 (w.heap.size + 1) (fun _ => 0) wr ∧ ∀ j, j < i → f j + t.getD j 0 ≤ 0) (fun v _ => n - (intOf v).toNat)
  case atStart => exact ⟨0, rfl, Nat.zero_le _, G2.out, by rw [stpF_zero]; exact B2.out, A2.out, fun j hj => by omega⟩
  case round =>
    obtain ⟨i, rfl, hi, hg, hA, hB, hl⟩ := hrel
    have GR : Hid (w.grownBy wr none) := hg
    have AR : Hid (Arr4 w.heap.size (stpF f t g i) wr) := hA
    have BR : Hid (Arr4 (w.heap.size + 1) (fun _ => 0) wr) := hB
    have HJ : Hid (∀ j, j < i → f j + t.getD j 0 ≤ 0) := hl
    clear hg hA hB hl
    obtain ⟨⟨x0, x1, x2⟩, x3, x4, ht, hgg⟩ := HI.out wr GR.out
    by_cases hin : i < n
    · have hin1 : (i : Int) < (n : Int) := by omega
      obtain ⟨bt, ot, rfl, ct⟩ := ht.at (k := i) (by have := HL.out; omega)
      have y1 := ct i (by have := HL.out; omega)
      obtain ⟨bg, og, rfl, cg⟩ := hgg.at (k := i) (by have := HL.out; omega)
      have y2 := cg i (by have := HL.out; omega)
      have y3 : wr.cell? ⟨w.heap.size, i, none⟩ = some (.int .i64 (f i)) := by have := AR.out.at (k := i) (by omega); rwa [stpF_at] at this
      have y4 : wr.frozen? ⟨w.heap.size, i, none⟩ = false := AR.out.cells.2.2.2.2 i
      have hi4 : (i : Int) < 4 := by omega
      have n1 : bw < w.heap.size := cell_lt (HI.out w (grown_refl _ _)).1.2.2
      have n2 : bb < w.heap.size := cell_lt (HI.out w (grown_refl _ _)).2.2.1
      have n3 : bg < w.heap.size := by
        obtain ⟨b', o', e', c'⟩ := (HI.out w (grown_refl _ _)).2.2.2.2.at (k := i) (by have := HL.out; omega)
        cases e'
        exact cell_lt (c' i (by have := HL.out; omega))
      clear ct cg ht hgg
      have hv := HV.out i hin
      by_cases e : f i + t.getD i 0 ≤ 0
      · have HJ2 : Hid (∀ j, j < i + 1 → f j + t.getD j 0 ≤ 0) := fun j hj => by
          by_cases e2 : j = i
          · subst e2; exact e
          · exact HJ.out j (by omega)
        have A9 : Hid (Arr4 w.heap.size (stpF f t g (i + 1)) (wr.setCell ⟨w.heap.size, i, none⟩ (.int .i64 (f i + (t.getD i 0 - g.getD i 0))))) := AR.out.set (by omega)
        have B9 : Hid (Arr4 (w.heap.size + 1) (fun _ => 0) (wr.setCell ⟨w.heap.size, i, none⟩ (.int .i64 (f i + (t.getD i 0 - g.getD i 0))))) := BR.out.far (grown_set _ _ _) (by simp)
        have G9 : Hid (w.grownBy (wr.setCell ⟨w.heap.size, i, none⟩ (.int .i64 (f i + (t.getD i 0 - g.getD i 0)))) none) := grown_new GR.out (grown_set _ _ _) (Nat.le_refl _)
        generalize f i = vf at *
        generalize t.getD i 0 = vt at *
        generalize g.getD i 0 = vg at *
        have w1 : IntKind.i64.wrap (vf + vt) = vf + vt := by rw [IntKind.wrap_i64]; omega
        have w2 : IntKind.i64.wrap (vt - vg) = vt - vg := by rw [IntKind.wrap_i64]; omega
        have w3 : IntKind.i64.wrap (vf + (vt - vg)) = vf + (vt - vg) := by rw [IntKind.wrap_i64]; omega
        have d1 : decide (vf + vt > 0) = false := decide_eq_false (by omega)
        have d2 : decide (0 < vf + vt) = false := decide_eq_false (by omega)
        clear hv e
        go_wp2_with fail
        have y5 : wr.drew.cell? ⟨w.heap.size, i, none⟩ = some (.int .i64 vf) := y3
        have y6 : wr.drew.frozen? ⟨w.heap.size, i, none⟩ = false := y4
        have SD : Hid (wr.drew.cell? ⟨bw, 2, none⟩ = some (.slice (some ⟨bb, ob, none⟩) nG d) ∧ wr.drew.cell? ⟨bb, ob + k, none⟩ = some (.slice (some ⟨bg, og, none⟩) n cb) ∧ wr.drew.cell? ⟨bg, og + i, none⟩ = some (.int .i64 vg)) := ⟨x2, x4, y2⟩
        have SP : Hid ((wr.drew.setCell ⟨w.heap.size, i, none⟩ (.int .i64 (vf + (vt - vg)))).cell? ⟨bw, 2, none⟩ = some (.slice (some ⟨bb, ob, none⟩) nG d) ∧ (wr.drew.setCell ⟨w.heap.size, i, none⟩ (.int .i64 (vf + (vt - vg)))).cell? ⟨bb, ob + k, none⟩ = some (.slice (some ⟨bg, og, none⟩) n cb) ∧ (wr.drew.setCell ⟨w.heap.size, i, none⟩ (.int .i64 (vf + (vt - vg)))).cell? ⟨bg, og + i, none⟩ = some (.int .i64 vg)) := by
          exact ⟨(grown_set wr.drew _ _).cell (show wr.drew.cell? _ = _ from x2) (by simp; omega), (grown_set wr.drew _ _).cell (show wr.drew.cell? _ = _ from x4) (by simp; omega), (grown_set wr.drew _ _).cell (show wr.drew.cell? _ = _ from y2) (by simp; omega)⟩
        refine wp_region_held_drew (S := (fun W => W.cell? ⟨bw, 2, none⟩ = some (.slice (some ⟨bb, ob, none⟩) nG d) ∧ W.cell? ⟨bb, ob + k, none⟩ = some (.slice (some ⟨bg, og, none⟩) n cb) ∧ W.cell? ⟨bg, og + i, none⟩ = some (.int .i64 vg))) (by kernel_rfl) (SD.out) (fun hHeld => ?_)
        refine wpAnyH_take (i := 0) (v := ?_) rfl (by kernel_rfl) (by kernel_rfl) (by kernel_rfl) (fun _ _ _ h => h) (Or.inl ⟨by rfl, ?_⟩) (by assumption) ?_
        rotate_left
        · intro W hSw
          obtain ⟨q0, q1, q2⟩ := hSw
          go_simp
          with_reducible rfl
        try simp only [Act.put, List.setIfInBounds_toArray, List.set_cons_zero, List.set_cons_succ]
        refine wpAnyH_take (i := 1) (v := ?_) rfl (by kernel_rfl) (by kernel_rfl) (by kernel_rfl) (fun _ _ _ h => h) (Or.inl ⟨by rfl, ?_⟩) (by assumption) ?_
        rotate_left
        · intro W hSw
          obtain ⟨q0, q1, q2⟩ := hSw
          go_simp
          with_reducible rfl
        try simp only [Act.put, List.setIfInBounds_toArray, List.set_cons_zero, List.set_cons_succ]
        refine wpAnyH_take (i := 3) (v := ?_) rfl (by kernel_rfl) (by kernel_rfl) (by kernel_rfl) (fun _ _ _ h => h) (Or.inl ⟨by rfl, ?_⟩) (by assumption) ?_
        rotate_left
        · intro W hSw
          obtain ⟨q0, q1, q2⟩ := hSw
          go_simp
          with_reducible rfl
        try simp only [Act.put, List.setIfInBounds_toArray, List.set_cons_zero, List.set_cons_succ]
        refine wpAnyH_take (i := 4) (v := ?_) rfl (by kernel_rfl) (by kernel_rfl) (by kernel_rfl) (fun _ _ _ h => h) (Or.inl ⟨by rfl, ?_⟩) (by assumption) ?_
        rotate_left
        · intro W hSw
          obtain ⟨q0, q1, q2⟩ := hSw
          go_simp
          with_reducible rfl
        try simp only [Act.put, List.setIfInBounds_toArray, List.set_cons_zero, List.set_cons_succ]
        refine wpAnyH_take (i := 5) (v := ?_) rfl (by kernel_rfl) (by kernel_rfl) (by kernel_rfl) (fun _ _ _ h => h) (Or.inl ⟨by rfl, ?_⟩) (by assumption) ?_
        rotate_left
        · intro W hSw
          obtain ⟨q0, q1, q2⟩ := hSw
          go_simp
          with_reducible rfl
        try simp only [Act.put, List.setIfInBounds_toArray, List.set_cons_zero, List.set_cons_succ]
        refine wpAnyH_take (i := 6) (v := ?_) rfl (by kernel_rfl) (by kernel_rfl) (by kernel_rfl) (fun _ _ _ h => h) (Or.inl ⟨by rfl, ?_⟩) (by assumption) ?_
        rotate_left
        · intro W hSw
          obtain ⟨q0, q1, q2⟩ := hSw
          go_simp
          with_reducible rfl
        try simp only [Act.put, List.setIfInBounds_toArray, List.set_cons_zero, List.set_cons_succ]
        refine wpAnyH_take (i := 7) (v := ?_) rfl (by kernel_rfl) (by kernel_rfl) (by kernel_rfl) (fun _ _ _ h => h) (Or.inl ⟨by rfl, ?_⟩) (by assumption) ?_
        rotate_left
        · intro W hSw
          obtain ⟨q0, q1, q2⟩ := hSw
          go_simp
          with_reducible rfl
        try simp only [Act.put, List.setIfInBounds_toArray, List.set_cons_zero, List.set_cons_succ]
        refine wpAnyH_take (i := 8) (v := ?_) rfl (by kernel_rfl) (by kernel_rfl) (by kernel_rfl) (fun _ _ _ h => h) (Or.inl ⟨by rfl, ?_⟩) (by assumption) ?_
        rotate_left
        · intro W hSw
          obtain ⟨q0, q1, q2⟩ := hSw
          go_simp
          with_reducible rfl
        try simp only [Act.put, List.setIfInBounds_toArray, List.set_cons_zero, List.set_cons_succ]
        refine wpAnyH_take (i := 9) (v := ?_) rfl (by kernel_rfl) (by kernel_rfl) (by kernel_rfl) (fun _ _ _ h => h) (Or.inl ⟨by rfl, ?_⟩) (by assumption) ?_
        rotate_left
        · intro W hSw
          obtain ⟨q0, q1, q2⟩ := hSw
          go_simp
          with_reducible rfl
        try simp only [Act.put, List.setIfInBounds_toArray, List.set_cons_zero, List.set_cons_succ]
        refine wpAnyH_take (i := 10) (v := ?_) rfl (by kernel_rfl) (by kernel_rfl) (by kernel_rfl) (fun _ _ _ h => h) (Or.inl ⟨by rfl, ?_⟩) (by assumption) ?_
        rotate_left
        · intro W hSw
          obtain ⟨q0, q1, q2⟩ := hSw
          go_simp
          with_reducible rfl
        try simp only [Act.put, List.setIfInBounds_toArray, List.set_cons_zero, List.set_cons_succ]
        refine wpAnyH_take (i := 11) (v := ?_) rfl (by kernel_rfl) (by kernel_rfl) (by kernel_rfl) (fun _ _ _ h => h) (Or.inl ⟨by rfl, ?_⟩) (by assumption) ?_
        rotate_left
        · intro W hSw
          obtain ⟨q0, q1, q2⟩ := hSw
          go_simp
          with_reducible rfl
        try simp only [Act.put, List.setIfInBounds_toArray, List.set_cons_zero, List.set_cons_succ]
        refine wpAnyH_take (i := 12) (v := ?_) rfl (by kernel_rfl) (by kernel_rfl) (by kernel_rfl) (fun _ _ _ h => h) (Or.inl ⟨by rfl, ?_⟩) (by assumption) ?_
        rotate_left
        · intro W hSw
          obtain ⟨q0, q1, q2⟩ := hSw
          go_simp
          with_reducible rfl
        try simp only [Act.put, List.setIfInBounds_toArray, List.set_cons_zero, List.set_cons_succ]
        refine wpAnyH_take (i := 13) (v := ?_) rfl (by kernel_rfl) (by kernel_rfl) (by kernel_rfl) (fun _ _ _ h => h) (Or.inl ⟨by rfl, ?_⟩) (by assumption) ?_
        rotate_left
        · intro W hSw
          obtain ⟨q0, q1, q2⟩ := hSw
          go_simp
          with_reducible rfl
        try simp only [Act.put, List.setIfInBounds_toArray, List.set_cons_zero, List.set_cons_succ]
        refine wpAnyH_take (i := 14) (v := ?_) rfl (by kernel_rfl) (by kernel_rfl) (by kernel_rfl) (fun _ _ _ h => h) (Or.inl ⟨by rfl, ?_⟩) (by assumption) ?_
        rotate_left
        · intro W hSw
          obtain ⟨q0, q1, q2⟩ := hSw
          go_simp
          with_reducible rfl
        try simp only [Act.put, List.setIfInBounds_toArray, List.set_cons_zero, List.set_cons_succ]
        refine wpAnyH_take (i := 15) (v := ?_) rfl (by kernel_rfl) (by kernel_rfl) (by kernel_rfl) (fun _ _ _ h => h) (Or.inl ⟨by rfl, ?_⟩) (by assumption) ?_
        rotate_left
        · intro W hSw
          obtain ⟨q0, q1, q2⟩ := hSw
          go_simp
          with_reducible rfl
        try simp only [Act.put, List.setIfInBounds_toArray, List.set_cons_zero, List.set_cons_succ]
        refine wpAnyH_ready (rs := [2]) (by kernel_rfl) (by simp) ?_
        refine AllReadyH.cons (o := _) rfl (fun K' hK => ?_) ?_
        · go_simp
          refine hK.out _ _ (SD.out) (fun hHeld => ?_)
          clear hK K'
          try simp only [Act.put, List.setIfInBounds_toArray, List.set_cons_zero, List.set_cons_succ]
          refine wpAnyH_take (i := 16) (v := ?_) rfl (by kernel_rfl) (by kernel_rfl) (by kernel_rfl) (fun _ _ _ h => h) (Or.inl ⟨by rfl, ?_⟩) (by assumption) ?_
          rotate_left
          · intro W hSw
            obtain ⟨q0, q1, q2⟩ := hSw
            go_simp
            with_reducible rfl
          try simp only [Act.put, List.setIfInBounds_toArray, List.set_cons_zero, List.set_cons_succ]
          refine wpAnyH_take (i := 17) (v := ?_) rfl (by kernel_rfl) (by kernel_rfl) (by kernel_rfl) (fun _ _ _ h => h) (Or.inl ⟨by rfl, ?_⟩) (by assumption) ?_
          rotate_left
          · intro W hSw
            obtain ⟨q0, q1, q2⟩ := hSw
            go_simp
            with_reducible rfl
          try simp only [Act.put, List.setIfInBounds_toArray, List.set_cons_zero, List.set_cons_succ]
          refine wpAnyH_ready (rs := [18]) (by kernel_rfl) (by simp) ?_
          refine AllReadyH.cons (o := _) rfl (fun K' hK => ?_) ?_
          · go_simp
            refine hK.out _ _ (SP.out) (fun hHeld => ?_)
            clear hK K'
            try simp only [Act.put, List.setIfInBounds_toArray, List.set_cons_zero, List.set_cons_succ]
            refine wpAnyH_done (by kernel_rfl) ?_ _
            go_wp2_with fail
            go_roundw
            case rel => exact ⟨i + 1, by go_num, by omega, grown_drew G9.out, A9.out.kept (grown_drew (grown_refl _ _)), B9.out.kept (grown_drew (grown_refl _ _)), HJ2.out⟩
            case measure => simp [intOf]; omega
          exact AllReadyH.nil
        exact AllReadyH.nil
      · have HN : Hid (¬ ∀ j, j < n → f j + t.getD j 0 ≤ 0) := fun q => e (q i hin)
        obtain ⟨W9, hW9, hg9, hA9⟩ := BR.out.store (fun _ => 0)
        have HW9 : Hid (W9 = _) := hW9
        have A9 : Hid (Arr4 (w.heap.size + 1) (fun _ => 0) W9) := hA9
        have GF : Hid (w.grownBy W9 none) := grown_new GR.out hg9 (by omega)
        obtain ⟨z0, z1, z2, z3, fz⟩ := BR.out.cells
        have fz0 := fz 0
        have fz1 := fz 1
        have fz2 := fz 2
        have fz3 := fz 3
        generalize f i = vf at *
        generalize t.getD i 0 = vt at *
        have w1 : IntKind.i64.wrap (vf + vt) = vf + vt := by rw [IntKind.wrap_i64]; omega
        have d1 : decide (vf + vt > 0) = true := decide_eq_true (by omega)
        have d2 : decide (0 < vf + vt) = true := decide_eq_true (by omega)
        clear hv e hW9 hg9 hA9 fz
        go_wp2_with fail
        rw [← HW9.out]
        obtain ⟨v0, v1, v2, v3, _⟩ := A9.out.cells
        refine bodyPost_ret (v := .tuple #[pilV fun _ => 0, .bool false]) (by simp [results, Try.results15, go_sem, v0, v1, v2, v3]) rfl ⟨?_, GF.out⟩
        rw [if_neg HN.out, decide_eq_false HN.out]
    · have hin1 : ¬ (i : Int) < (n : Int) := by omega
      have e : i = n := by omega
      subst e
      have HY : Hid (∀ j, j < i → f j + t.getD j 0 ≤ 0) := HJ.out
      obtain ⟨q, hq⟩ : ∃ q, stpF f t g i = q := ⟨_, rfl⟩
      have A0 := AR.out
      rw [hq] at A0
      have HQ : Hid (stpF f t g i = q) := hq
      obtain ⟨x5, x6, x7, x8, _⟩ := A0.cells
      obtain ⟨W9, hW9, hg9, hA9⟩ := BR.out.store q
      have HW9 : Hid (W9 = _) := hW9
      have A9 : Hid (Arr4 (w.heap.size + 1) q W9) := hA9
      have GF : Hid (w.grownBy W9 none) := grown_new GR.out hg9 (by omega)
      obtain ⟨z0, z1, z2, z3, fz⟩ := BR.out.cells
      have fz0 := fz 0
      have fz1 := fz 1
      have fz2 := fz 2
      have fz3 := fz 3
      clear hW9 hg9 hA9 fz hq A0 x0 x1 x2 x3 x4 ht hgg
      go_wp2_with fail
      rw [← HW9.out]
      obtain ⟨v0, v1, v2, v3, _⟩ := A9.out.cells
      refine bodyPost_ret (v := .tuple #[pilV q, .bool true]) (by simp [results, Try.results15, go_sem, v0, v1, v2, v3]) rfl ⟨?_, GF.out⟩
      rw [if_pos HY.out, decide_eq_true HY.out, HQ.out]

end Go.Proofs.Ytbkfcfhkjnfbmaa
