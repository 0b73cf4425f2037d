/- Both at once: the program's paired. -/
import Derived.Test.YtkmcbdjcolbknaaWeStep
import Derived.BigRegion
import Derived.Deep.RegionWith
import Derived.Deep.RegionHeld3
import Derived.Deep.RegionLaw
import Derived.Deep.DeepCutAuto
namespace Go.Proofs.Ytkmcbdjcolbknaa
open Go.RowKit
set_option linter.unusedVariables false
set_option linter.unusedSimpArgs false

def SPr (k : Nat) (L : Int) (v1 v3 u1 u3 : Value) (W : World) : Prop :=
  W.cell? ⟨k, 0, none⟩ = some (.int .i64 L) ∧ W.cell? ⟨k, 1, none⟩ = some v1 ∧ W.cell? ⟨k, 3, none⟩ = some v3 ∧ W.cell? ⟨k + 1, 1, none⟩ = some u1 ∧ W.cell? ⟨k + 1, 3, none⟩ = some u3
theorem SPr.kept {k : Nat} {L : Int} {v1 v3 u1 u3 : Value} {W W' : World} (h : SPr k L v1 v3 u1 u3 W) (g : W.grownBy W' none) : SPr k L v1 v3 u1 u3 W' := by
  obtain ⟨h0, h1, h2, h3, h4⟩ := h
  exact ⟨g.cell h0 (by simp), g.cell h1 (by simp), g.cell h2 (by simp), g.cell h3 (by simp), g.cell h4 (by simp)⟩
/-- The box is made, with First and Last, no Step yet. -/
def BMid (W1 : World) (L : Int) (l6 l11 : List Int) (v : Value) (W : World) : Prop := ∃ k aF cF aE cE, v = .pointer (some ⟨k, 0, none⟩) ∧ BxW W k L aF l6.length cF none 0 0 aE l11.length cE ∧ W1.heap.size ≤ k ∧ Ints W aF l6 ∧ Ints W aE l11 ∧ (∀ y, aF = some y → W1.heap.size ≤ y.block ∧ y.block < W.heap.size ∧ y.block ≠ k) ∧ (∀ y, aE = some y → W1.heap.size ≤ y.block ∧ y.block < W.heap.size ∧ y.block ≠ k) ∧ W1.grownBy W none
theorem BMid.a {W1 w : World} {L : Int} {l6 l11 : List Int} {aF aE : Option Addr} {cF cE : Nat} (g : W1.grownBy w none) (i6 : Ints w aF l6) (i11 : Ints w aE l11) (n6 : ∀ y, aF = some y → W1.heap.size ≤ y.block ∧ y.block < w.heap.size) (n11 : ∀ y, aE = some y → W1.heap.size ≤ y.block ∧ y.block < w.heap.size) : BMid W1 L l6 l11 (.pointer (some ⟨w.heap.size, 0, none⟩)) (w.alloc (wgO L aF l6.length cF none 0 0 aE l11.length cE)) := by
  have g1 := grown_alloc w (wgO L aF l6.length cF none 0 0 aE l11.length cE)
  have hs : (w.alloc (wgO L aF l6.length cF none 0 0 aE l11.length cE)).heap.size = w.heap.size + 1 := by simp
  exact ⟨_, _, _, _, _, rfl, ⟨heap_alloc_new w _⟩, g.size, i6.grown g1, i11.grown g1, fun y hy => by have := n6 y hy; omega, fun y hy => by have := n11 y hy; omega, grown_trans g g1⟩
theorem BMid.b {W1 w W9 : World} {L : Int} {l6 l11 : List Int} {aF aE : Option Addr} {cF cE k : Nat} (g : W1.grownBy w none) (g9 : w.grownBy W9 (some k)) (hk : W1.heap.size ≤ k) (i6 : Ints w aF l6) (i11 : Ints w aE l11) (n6 : ∀ y, aF = some y → W1.heap.size ≤ y.block ∧ y.block < w.heap.size ∧ y.block ≠ k) (n11 : ∀ y, aE = some y → W1.heap.size ≤ y.block ∧ y.block < w.heap.size ∧ y.block ≠ k) (hb : W9.heap[k]? = some (.cells #[.int .i64 L, .slice aF l6.length cF, .slice none 0 0, .slice aE l11.length cE] 25 (0, 0))) : BMid W1 L l6 l11 (.pointer (some ⟨k, 0, none⟩)) W9 := by
  have hs := g9.size
  exact ⟨_, _, _, _, _, rfl, ⟨hb⟩, hk, intsN_far i6 (fun _ y hy => (n6 y hy).2.2) g9, intsN_far i11 (fun _ y hy => (n11 y hy).2.2) g9, fun y hy => by have := n6 y hy; omega, fun y hy => by have := n11 y hy; omega, grown_new g g9 hk⟩

theorem in9 {l : List Int} (h : InW l 9) : InW l 1000 := fun z hz => by have := h z hz; omega
/-- An automaton is made. -/
def MadeP (X : WgI) (w : World) (e : Ending) (w' : World) : Prop := ∃ a1 a2 a3 c1 c2 c3, e = .returned (wgV X.L a1 X.F.length c1 a2 X.S.length c2 a3 X.E.length c3) ∧ WgAt w' X a1 a2 a3 ∧ w.grownBy w' none ∧ ∀ b W, b < w.heap.size → w'.grownBy W (some b) → WgAt W X a1 a2 a3

/-- What holds behind l letters. -/
structure PaSt (B k : Nat) (W1 : World) (x y : WgI) (L6 L11 : List Int) (aF : Option Addr) (cF : Nat) (aE : Option Addr) (cE : Nat) (l : Nat) (aS : Option Addr) (cS : Nat) (ts : List Tbl) (W : World) : Prop where
  box : BxW W k x.L aF L6.length cF aS l cS aE L11.length cE
  step : StepO B W aS cS ts
  len : ts.length = l
  val : tbL ts = (List.range l).map fun l => kroT (tabW x l) (tabW y l)
  iF : Ints W aF L6
  iE : Ints W aE L11
  gr : W1.grownBy W none
  sz : B ≤ W.heap.size

attribute [local go_sem ↓] appY_fold in
set_option maxHeartbeats 3200000 in
set_option maxRecDepth 100000 in
theorem paired_any (x y : WgI) (hx : GoodWg x) (hy : GoodWg y) (hL : x.S.length = y.S.length) (a1 a2 a3 b1 b2 b3 : Option Addr) (an1 an2 an3 ac1 ac2 ac3 bn1 bn2 bn3 bc1 bc2 bc3 : Nat) (w : World) (mx : WgAt w x a1 a2 a3) (my : WgAt w y b1 b2 b3) (ex1 : x.F.length = an1) (ex2 : x.S.length = an2) (ex3 : x.E.length = an3) (ey1 : y.F.length = bn1) (ey2 : y.S.length = bn2) (ey3 : y.E.length = bn3) :
    Calls Try.prog 14 #[wgV x.L a1 an1 ac1 a2 an2 ac2 a3 an3 ac3, wgV y.L b1 bn1 bc1 b2 bn2 bc2 b3 bn3 bc3] w (MadeP (kroA x y) w) := by
  obtain ⟨A0, hA0, g0, s0, bx⟩ := box4_new w x.L a1 an1 ac1 a2 an2 ac2 a3 an3 ac3
  obtain ⟨A1, hA1, g1, s1, by'⟩ := box4_new A0 y.L b1 bn1 bc1 b2 bn2 bc2 b3 bn3 bc3
  obtain ⟨W1, hW1, g2, s2, bz⟩ := box4_new A1 0 none 0 0 none 0 0 none 0 0
  rw [s0] at by'
  have HW1 : Hid (W1 = ((w.alloc (wgO x.L a1 an1 ac1 a2 an2 ac2 a3 an3 ac3)).alloc (wgO y.L b1 bn1 bc1 b2 bn2 bc2 b3 bn3 bc3)).alloc (wgO 0 none 0 0 none 0 0 none 0 0)) := by show _ = _; rw [hW1, hA1, hA0]
  have G1 : Hid (w.grownBy W1 none) := grown_trans g0 (grown_trans g1 g2)
  have HS1 : Hid (W1.heap.size = w.heap.size + 1 + 1 + 1) := by show _ = _; omega
  have BX : Hid (∀ W, W1.grownBy W none → Box4 W w.heap.size x.L a1 an1 ac1 a2 an2 ac2 a3 an3 ac3) := fun W hW => bx.grown (grown_trans g1 (grown_trans g2 hW))
  have BY : Hid (∀ W, W1.grownBy W none → Box4 W (w.heap.size + 1) y.L b1 bn1 bc1 b2 bn2 bc2 b3 bn3 bc3) := fun W hW => by'.grown (grown_trans g2 hW)
  have HZ : Hid (∀ W, W1.grownBy W none → W.heap[w.heap.size + 1 + 1]? = some (.cells #[.int .i64 0, .slice none 0 0, .slice none 0 0, .slice none 0 0] 25)) := fun W hW => by
    have h1 := heap_alloc_new A1 (wgO 0 none 0 0 none 0 0 none 0 0)
    rw [← hW1, s1, s0] at h1
    exact (hW.block _ (by omega) (by simp)).trans h1
  have hn8 : x.F.length ≤ 8 := hx.size.2
  have hm8 : y.F.length ≤ 8 := hy.size.2
  obtain ⟨L6, hL6⟩ : ∃ l, kroR x.F y.F = l := ⟨_, rfl⟩
  obtain ⟨L11, hL11⟩ : ∃ l, kroR x.E y.E = l := ⟨_, rfl⟩
  have HC6 : Hid (∀ W, W1.grownBy W none → Calls Try.prog 24 #[.slice a1 an1 ac1, .slice b1 bn1 bc1] W (RowI L6 W)) := fun W hW => hL6 ▸ rowPaired_any x.F y.F a1 b1 an1 bn1 ac1 bc1 W (mx.first.grown (grown_trans G1.out hW)) (my.first.grown (grown_trans G1.out hW)) ex1 ey1 (by omega) (by omega) (in9 hx.within.1) (in9 hy.within.1)
  have HC11 : Hid (∀ W, W1.grownBy W none → Calls Try.prog 24 #[.slice a3 an3 ac3, .slice b3 bn3 bc3] W (RowI L11 W)) := fun W hW => hL11 ▸ rowPaired_any x.E y.E a3 b3 an3 bn3 ac3 bc3 W (mx.last.grown (grown_trans G1.out hW)) (my.last.grown (grown_trans G1.out hW)) ex3 ey3 (by have := hx.shape.1; omega) (by have := hy.shape.1; omega) (in9 hx.within.2.1) (in9 hy.within.2.1)
  have S1 : Hid (SPr w.heap.size x.L (.slice a1 an1 ac1) (.slice a3 an3 ac3) (.slice b1 bn1 bc1) (.slice b3 bn3 bc3) W1) := ⟨(BX.out W1 (grown_refl _ _)).b0, (BX.out W1 (grown_refl _ _)).b1, (BX.out W1 (grown_refl _ _)).b3, (BY.out W1 (grown_refl _ _)).b1, (BY.out W1 (grown_refl _ _)).b3⟩
  have HTX : Hid (∀ W, W1.grownBy W none → WgAt W x a1 a2 a3) := fun W hW => mx.grown (grown_trans G1.out hW)
  have HTY : Hid (∀ W, W1.grownBy W none → WgAt W y b1 b2 b3) := fun W hW => my.grown (grown_trans G1.out hW)
  have HG : Hid (GoodWg x ∧ GoodWg y ∧ x.S.length = an2 ∧ y.S.length = an2 ∧ bn2 = an2 ∧ x.L = (an2 : Int)) := ⟨hx, hy, ex2, by omega, by omega, by have := hx.shape.2.1; omega⟩
  have HK : Hid (kroA x y = ⟨x.L, L6, (List.range an2).map (fun l => kroT (tabW x l) (tabW y l)), L11⟩) := by show _ = _; rw [← hL6, ← hL11, ← ex2]; rfl
  obtain ⟨Po, hPo⟩ : ∃ P, P = MadeP (kroA x y) w := ⟨_, rfl⟩
  have HPo : Hid (Po = MadeP (kroA x y) w) := hPo
  rw [← hPo]
  clear hA0 hA1 hW1 g0 g1 g2 s0 s1 s2 bx by' bz hn8 hm8 hL6 hL11 mx my hx hy hL ex1 ex2 ex3 ey1 ey2 ey3 hPo
  go_enter Try.func14, Try.ntmps14
  go_wp2_with fail
  rw [← HW1.out]
  go_cut [5] (fun v wc => BMid W1 x.L L6 L11 v wc)
  case first =>
    refine wp_region_held_drew (S := SPr w.heap.size x.L (.slice a1 an1 ac1) (.slice a3 an3 ac3) (.slice b1 bn1 bc1) (.slice b3 bn3 bc3)) (by kernel_rfl) (S1.out.kept (grown_drew (grown_refl _ _))) (fun hHeld => ?_)
    refine wpAnyH_take (i := 0) (v := ?_) rfl (by kernel_rfl) (by kernel_rfl) (by kernel_rfl) (fun _ _ _ h => h) (Or.inl ⟨by rfl, ?_⟩) (by assumption) ?_
    rotate_left
    · intro W hSw
      obtain ⟨q0, q1, q2, q3, q4⟩ := hSw
      go_simp
      with_reducible rfl
    try simp only [Act.put, List.getElem_toArray, List.getElem_cons_succ, List.getElem_cons_zero, List.setIfInBounds_toArray, List.set_cons_zero, List.set_cons_succ]
    refine wpAnyH_take (i := 1) (v := ?_) rfl (by kernel_rfl) (by kernel_rfl) (by kernel_rfl) (fun _ _ _ h => h) (Or.inl ⟨by rfl, ?_⟩) (by assumption) ?_
    rotate_left
    · intro W hSw
      obtain ⟨q0, q1, q2, q3, q4⟩ := hSw
      go_simp
      with_reducible rfl
    try simp only [Act.put, List.getElem_toArray, List.getElem_cons_succ, List.getElem_cons_zero, List.setIfInBounds_toArray, List.set_cons_zero, List.set_cons_succ]
    refine wpAnyH_take (i := 2) (v := ?_) rfl (by kernel_rfl) (by kernel_rfl) (by kernel_rfl) (fun _ _ _ h => h) (Or.inl ⟨by rfl, ?_⟩) (by assumption) ?_
    rotate_left
    · intro W hSw
      obtain ⟨q0, q1, q2, q3, q4⟩ := hSw
      go_simp
      with_reducible rfl
    try simp only [Act.put, List.getElem_toArray, List.getElem_cons_succ, List.getElem_cons_zero, List.setIfInBounds_toArray, List.set_cons_zero, List.set_cons_succ]
    refine wpAnyH_take (i := 3) (v := ?_) rfl (by kernel_rfl) (by kernel_rfl) (by kernel_rfl) (fun _ _ _ h => h) (Or.inl ⟨by rfl, ?_⟩) (by assumption) ?_
    rotate_left
    · intro W hSw
      obtain ⟨q0, q1, q2, q3, q4⟩ := hSw
      go_simp
      with_reducible rfl
    try simp only [Act.put, List.getElem_toArray, List.getElem_cons_succ, List.getElem_cons_zero, List.setIfInBounds_toArray, List.set_cons_zero, List.set_cons_succ]
    refine wpAnyH_take (i := 4) (v := ?_) rfl (by kernel_rfl) (by kernel_rfl) (by kernel_rfl) (fun _ _ _ h => h) (Or.inl ⟨by rfl, ?_⟩) (by assumption) ?_
    rotate_left
    · intro W hSw
      obtain ⟨q0, q1, q2, q3, q4⟩ := hSw
      go_simp
      with_reducible rfl
    try simp only [Act.put, List.getElem_toArray, List.getElem_cons_succ, List.getElem_cons_zero, List.setIfInBounds_toArray, List.set_cons_zero, List.set_cons_succ]
    refine wpAnyH_take (i := 5) (v := ?_) rfl (by kernel_rfl) (by kernel_rfl) (by kernel_rfl) (fun _ _ _ h => h) (Or.inl ⟨by rfl, ?_⟩) (by assumption) ?_
    rotate_left
    · intro W hSw
      obtain ⟨q0, q1, q2, q3, q4⟩ := hSw
      go_simp
      with_reducible rfl
    try simp only [Act.put, List.getElem_toArray, List.getElem_cons_succ, List.getElem_cons_zero, List.setIfInBounds_toArray, List.set_cons_zero, List.set_cons_succ]
    refine wpAnyH_take (i := 7) (v := ?_) rfl (by kernel_rfl) (by kernel_rfl) (by kernel_rfl) (fun _ _ _ h => h) (Or.inl ⟨by rfl, ?_⟩) (by assumption) ?_
    rotate_left
    · intro W hSw
      obtain ⟨q0, q1, q2, q3, q4⟩ := hSw
      go_simp
      with_reducible rfl
    try simp only [Act.put, List.getElem_toArray, List.getElem_cons_succ, List.getElem_cons_zero, List.setIfInBounds_toArray, List.set_cons_zero, List.set_cons_succ]
    refine wpAnyH_take (i := 8) (v := ?_) rfl (by kernel_rfl) (by kernel_rfl) (by kernel_rfl) (fun _ _ _ h => h) (Or.inl ⟨by rfl, ?_⟩) (by assumption) ?_
    rotate_left
    · intro W hSw
      obtain ⟨q0, q1, q2, q3, q4⟩ := hSw
      go_simp
      with_reducible rfl
    try simp only [Act.put, List.getElem_toArray, List.getElem_cons_succ, List.getElem_cons_zero, List.setIfInBounds_toArray, List.set_cons_zero, List.set_cons_succ]
    refine wpAnyH_take (i := 9) (v := ?_) rfl (by kernel_rfl) (by kernel_rfl) (by kernel_rfl) (fun _ _ _ h => h) (Or.inl ⟨by rfl, ?_⟩) (by assumption) ?_
    rotate_left
    · intro W hSw
      obtain ⟨q0, q1, q2, q3, q4⟩ := hSw
      go_simp
      with_reducible rfl
    try simp only [Act.put, List.getElem_toArray, List.getElem_cons_succ, List.getElem_cons_zero, List.setIfInBounds_toArray, List.set_cons_zero, List.set_cons_succ]
    refine wpAnyH_take (i := 10) (v := ?_) rfl (by kernel_rfl) (by kernel_rfl) (by kernel_rfl) (fun _ _ _ h => h) (Or.inl ⟨by rfl, ?_⟩) (by assumption) ?_
    rotate_left
    · intro W hSw
      obtain ⟨q0, q1, q2, q3, q4⟩ := hSw
      go_simp
      with_reducible rfl
    try simp only [Act.put, List.getElem_toArray, List.getElem_cons_succ, List.getElem_cons_zero, List.setIfInBounds_toArray, List.set_cons_zero, List.set_cons_succ]
    refine wpAnyH_ready (rs := [6, 13]) (by kernel_rfl) (by simp) ?_
    refine AllReadyH.cons (o := _) rfl (fun K' hK => ?_) ?_
    · go_simp
      refine (HC6.out _ (grown_drew (grown_refl W1 none))).mono ?_
      rintro E w6 ⟨t6, d6, rfl, h6⟩
      have G6 : Hid (W1.grownBy w6 none) := grown_trans (grown_drew (grown_refl W1 none)) h6.gr
      have R6 : Hid (Ints w6 t6 L6 ∧ (∀ y, t6 = some y → _ ≤ y.block ∧ y.block < w6.heap.size)) := ⟨h6.ints, (row_lt h6.own).1⟩
      have Z6 : Hid (_) := h6.gr
      clear h6
      go_wp2_with fail
      refine hK.out _ _ (S1.out.kept G6.out) (fun hHeld => ?_)
      clear hK K'
      try simp only [Act.put, List.getElem_toArray, List.getElem_cons_succ, List.getElem_cons_zero, List.setIfInBounds_toArray, List.set_cons_zero, List.set_cons_succ]
      refine wpAnyH_ready (rs := [11, 13]) (by kernel_rfl) (by simp) ?_
      refine AllReadyH.cons (o := _) rfl (fun K' hK => ?_) ?_
      · go_simp
        refine (HC11.out _ G6.out).mono ?_
        rintro E w11 ⟨t11, d11, rfl, h11⟩
        have G11 : Hid (W1.grownBy w11 none) := grown_trans G6.out h11.gr
        have R11 : Hid (Ints w11 t11 L11 ∧ (∀ y, t11 = some y → _ ≤ y.block ∧ y.block < w11.heap.size)) := ⟨h11.ints, (row_lt h11.own).1⟩
        have I6 : Hid (Ints w11 t6 L6) := R6.out.1.grown h11.gr
        have GS : Hid (w6.heap.size ≤ w11.heap.size) := h11.gr.size
        have MA : Hid (BMid W1 x.L L6 L11 (.pointer (some ⟨w11.heap.size, 0, none⟩)) (w11.alloc (wgO x.L t6 L6.length d6 none 0 0 t11 L11.length d11))) := BMid.a G11.out I6.out R11.out.1 (fun y hy => by have h1 := R6.out.2 y hy; have h2 := GS.out; have h3 : W1.drew.heap.size = W1.heap.size := rfl; omega) (fun y hy => by have h1 := R11.out.2 y hy; have h2 := G6.out.size; omega)
        clear h11
        go_wp2_with fail
        refine hK.out _ _ (S1.out.kept G11.out) (fun hHeld => ?_)
        clear hK K'
        try simp only [Act.put, List.getElem_toArray, List.getElem_cons_succ, List.getElem_cons_zero, List.setIfInBounds_toArray, List.set_cons_zero, List.set_cons_succ]
        refine wpAnyH_take (i := 12) (v := ?_) rfl (by kernel_rfl) (by kernel_rfl) (by kernel_rfl) (fun _ _ _ h => h) (Or.inl ⟨by rfl, ?_⟩) (by assumption) ?_
        rotate_left
        · intro W hSw
          obtain ⟨q0, q1, q2, q3, q4⟩ := hSw
          go_simp
          with_reducible rfl
        try simp only [Act.put, List.getElem_toArray, List.getElem_cons_succ, List.getElem_cons_zero, List.setIfInBounds_toArray, List.set_cons_zero, List.set_cons_succ]
        refine wpAnyH_ready (rs := [13]) (by kernel_rfl) (by simp) ?_
        refine AllReadyH.cons (o := _) rfl (fun K' hK => ?_) ?_
        · go_simp
          refine hK.out _ _ (S1.out.kept (grown_trans G11.out (grown_alloc _ _))) (fun hHeld => ?_)
          clear hK K'
          try simp only [Act.put, List.getElem_toArray, List.getElem_cons_succ, List.getElem_cons_zero, List.setIfInBounds_toArray, List.set_cons_zero, List.set_cons_succ]
          refine wpAnyH_ready (rs := [14]) (by kernel_rfl) (by simp) ?_
          refine AllReadyH.cons (o := _) rfl (fun K' hK => ?_) ?_
          · go_simp
            refine hK.out _ _ (S1.out.kept (grown_trans G11.out (grown_alloc _ _))) (fun hHeld => ?_)
            clear hK K'
            try simp only [Act.put, List.getElem_toArray, List.getElem_cons_succ, List.getElem_cons_zero, List.setIfInBounds_toArray, List.set_cons_zero, List.set_cons_succ]
            refine wpAnyH_done (by kernel_rfl) ?_ _
            go_wp2_with fail
            go_meet
            case rel => exact MA.out
          exact AllReadyH.nil
        exact AllReadyH.nil
      refine AllReadyH.cons (o := _) rfl (fun K' hK => ?_) ?_
      · go_simp
        refine hK.out _ _ (S1.out.kept (grown_trans G6.out (grown_alloc _ _))) (fun hHeld => ?_)
        clear hK K'
        try simp only [Act.put, List.getElem_toArray, List.getElem_cons_succ, List.getElem_cons_zero, List.setIfInBounds_toArray, List.set_cons_zero, List.set_cons_succ]
        refine wpAnyH_ready (rs := [11]) (by kernel_rfl) (by simp) ?_
        refine AllReadyH.cons (o := _) rfl (fun K' hK => ?_) ?_
        · go_simp
          refine (HC11.out _ (grown_trans G6.out (grown_alloc w6 (wgO 0 none 0 0 none 0 0 none 0 0)))).mono ?_
          rintro E w11 ⟨t11, d11, rfl, h11⟩
          have G11 : Hid (W1.grownBy w11 none) := grown_trans (grown_trans G6.out (grown_alloc w6 (wgO 0 none 0 0 none 0 0 none 0 0))) h11.gr
          have R11 : Hid (Ints w11 t11 L11 ∧ (∀ y, t11 = some y → _ ≤ y.block ∧ y.block < w11.heap.size)) := ⟨h11.ints, (row_lt h11.own).1⟩
          have I6 : Hid (Ints w11 t6 L6) := R6.out.1.grown (grown_trans (grown_alloc w6 (wgO 0 none 0 0 none 0 0 none 0 0)) h11.gr)
          have GS : Hid (w6.heap.size ≤ w11.heap.size) := (grown_trans (grown_alloc w6 (wgO 0 none 0 0 none 0 0 none 0 0)) h11.gr).size
          have hb : w11.heap[w6.heap.size]? = some (.cells #[.int .i64 0, .slice none 0 0, .slice none 0 0, .slice none 0 0] 25) := (h11.gr.block _ (by show _ < (w6.alloc (wgO 0 none 0 0 none 0 0 none 0 0)).heap.size; simp) (by simp)).trans (heap_alloc_new w6 (wgO 0 none 0 0 none 0 0 none 0 0))
          have HSZ : Hid ((w6.alloc (wgO 0 none 0 0 none 0 0 none 0 0)).heap.size = w6.heap.size + 1) := by show _ = _; simp
          obtain ⟨⟨p0, p1, p2, p3⟩, fz, W9, hW9, g9, hb9⟩ := four_store hb (.int .i64 x.L) (.slice t6 L6.length d6) (.slice none 0 0) (.slice t11 L11.length d11)
          have HW9 : Hid (W9 = _) := hW9
          have MB : Hid (BMid W1 x.L L6 L11 (.pointer (some ⟨w6.heap.size, 0, none⟩)) W9) := BMid.b G11.out g9 G6.out.size I6.out R11.out.1 (fun y hy => by have h1 := R6.out.2 y hy; have h2 : W1.drew.heap.size = W1.heap.size := rfl; have h9 := GS.out; omega) (fun y hy => by have h1 := R11.out.2 y hy; have h2 := HSZ.out; have h3 := G6.out.size; omega) hb9
          have G9 : Hid (W1.grownBy W9 none) := grown_new G11.out g9 G6.out.size
          have f0 := fz 0
          have f1 := fz 1
          have f2 := fz 2
          have f3 := fz 3
          clear h11 hb fz hW9 g9 hb9
          go_wp2_with fail
          refine hK.out _ _ (S1.out.kept G11.out) (fun hHeld => ?_)
          clear hK K'
          try simp only [Act.put, List.getElem_toArray, List.getElem_cons_succ, List.getElem_cons_zero, List.setIfInBounds_toArray, List.set_cons_zero, List.set_cons_succ]
          refine wpAnyH_take (i := 12) (v := ?_) rfl (by kernel_rfl) (by kernel_rfl) (by kernel_rfl) (fun _ _ _ h => h) (Or.inl ⟨by rfl, ?_⟩) (by assumption) ?_
          rotate_left
          · intro W hSw
            obtain ⟨q0, q1, q2, q3, q4⟩ := hSw
            go_simp
            with_reducible rfl
          try simp only [Act.put, List.getElem_toArray, List.getElem_cons_succ, List.getElem_cons_zero, List.setIfInBounds_toArray, List.set_cons_zero, List.set_cons_succ]
          refine wpAnyH_ready (rs := [14]) (by kernel_rfl) (by simp) ?_
          refine AllReadyH.cons (o := _) rfl (fun K' hK => ?_) ?_
          · go_simp
            rw [← HW9.out]
            refine hK.out _ _ (S1.out.kept G9.out) (fun hHeld => ?_)
            clear hK K'
            try simp only [Act.put, List.getElem_toArray, List.getElem_cons_succ, List.getElem_cons_zero, List.setIfInBounds_toArray, List.set_cons_zero, List.set_cons_succ]
            refine wpAnyH_done (by kernel_rfl) ?_ _
            go_wp2_with fail
            go_meet
            case rel => exact MB.out
          exact AllReadyH.nil
        exact AllReadyH.nil
      exact AllReadyH.nil
    refine AllReadyH.cons (o := _) rfl (fun K' hK => ?_) ?_
    · go_simp
      refine hK.out _ _ (hHeld.kept (grown_alloc _ _)) (fun hHeld => ?_)
      clear hK K'
      try simp only [Act.put, List.getElem_toArray, List.getElem_cons_succ, List.getElem_cons_zero, List.setIfInBounds_toArray, List.set_cons_zero, List.set_cons_succ]
      refine wpAnyH_ready (rs := [6]) (by kernel_rfl) (by simp) ?_
      refine AllReadyH.cons (o := _) rfl (fun K' hK => ?_) ?_
      · go_simp
        refine (HC6.out _ (grown_trans (grown_alloc W1 (wgO 0 none 0 0 none 0 0 none 0 0)) (grown_drew (grown_refl _ none)))).mono ?_
        rintro E w6 ⟨t6, d6, rfl, h6⟩
        have G6 : Hid (W1.grownBy w6 none) := grown_trans (grown_trans (grown_alloc W1 (wgO 0 none 0 0 none 0 0 none 0 0)) (grown_drew (grown_refl _ none))) h6.gr
        have R6 : Hid (Ints w6 t6 L6 ∧ (∀ y, t6 = some y → _ ≤ y.block ∧ y.block < w6.heap.size)) := ⟨h6.ints, (row_lt h6.own).1⟩
        have Z6 : Hid (_) := h6.gr
        clear h6
        go_wp2_with fail
        refine hK.out _ _ (S1.out.kept G6.out) (fun hHeld => ?_)
        clear hK K'
        try simp only [Act.put, List.getElem_toArray, List.getElem_cons_succ, List.getElem_cons_zero, List.setIfInBounds_toArray, List.set_cons_zero, List.set_cons_succ]
        refine wpAnyH_ready (rs := [11]) (by kernel_rfl) (by simp) ?_
        refine AllReadyH.cons (o := _) rfl (fun K' hK => ?_) ?_
        · go_simp
          refine (HC11.out _ G6.out).mono ?_
          rintro E w11 ⟨t11, d11, rfl, h11⟩
          have G11 : Hid (W1.grownBy w11 none) := grown_trans G6.out h11.gr
          have R11 : Hid (Ints w11 t11 L11 ∧ (∀ y, t11 = some y → _ ≤ y.block ∧ y.block < w11.heap.size)) := ⟨h11.ints, (row_lt h11.own).1⟩
          have I6 : Hid (Ints w11 t6 L6) := R6.out.1.grown h11.gr
          have GS : Hid (w6.heap.size ≤ w11.heap.size) := h11.gr.size
          have hb : w11.heap[W1.heap.size]? = some (.cells #[.int .i64 0, .slice none 0 0, .slice none 0 0, .slice none 0 0] 25) := ((grown_trans Z6.out h11.gr).block _ (by show _ < (W1.alloc (wgO 0 none 0 0 none 0 0 none 0 0)).heap.size; simp) (by simp)).trans (heap_alloc_new W1 (wgO 0 none 0 0 none 0 0 none 0 0))
          have HSZ : Hid ((W1.alloc (wgO 0 none 0 0 none 0 0 none 0 0)).drew.heap.size = W1.heap.size + 1) := by show (W1.alloc (wgO 0 none 0 0 none 0 0 none 0 0)).heap.size = _; simp
          have HS6 : Hid (W1.heap.size + 1 ≤ w6.heap.size) := by have h1 := Z6.out.size; have h2 := HSZ.out; show _ ≤ _; omega
          obtain ⟨⟨p0, p1, p2, p3⟩, fz, W9, hW9, g9, hb9⟩ := four_store hb (.int .i64 x.L) (.slice t6 L6.length d6) (.slice none 0 0) (.slice t11 L11.length d11)
          have HW9 : Hid (W9 = _) := hW9
          have MB : Hid (BMid W1 x.L L6 L11 (.pointer (some ⟨W1.heap.size, 0, none⟩)) W9) := BMid.b G11.out g9 (Nat.le_refl _) I6.out R11.out.1 (fun y hy => by have h1 := R6.out.2 y hy; have h2 := HSZ.out; have h9 := GS.out; omega) (fun y hy => by have h1 := R11.out.2 y hy; have h2 := HS6.out; omega) hb9
          have G9 : Hid (W1.grownBy W9 none) := grown_new G11.out g9 (Nat.le_refl _)
          have f0 := fz 0
          have f1 := fz 1
          have f2 := fz 2
          have f3 := fz 3
          clear h11 hb fz hW9 g9 hb9
          go_wp2_with fail
          refine hK.out _ _ (S1.out.kept G11.out) (fun hHeld => ?_)
          clear hK K'
          try simp only [Act.put, List.getElem_toArray, List.getElem_cons_succ, List.getElem_cons_zero, List.setIfInBounds_toArray, List.set_cons_zero, List.set_cons_succ]
          refine wpAnyH_take (i := 12) (v := ?_) rfl (by kernel_rfl) (by kernel_rfl) (by kernel_rfl) (fun _ _ _ h => h) (Or.inl ⟨by rfl, ?_⟩) (by assumption) ?_
          rotate_left
          · intro W hSw
            obtain ⟨q0, q1, q2, q3, q4⟩ := hSw
            go_simp
            with_reducible rfl
          try simp only [Act.put, List.getElem_toArray, List.getElem_cons_succ, List.getElem_cons_zero, List.setIfInBounds_toArray, List.set_cons_zero, List.set_cons_succ]
          refine wpAnyH_ready (rs := [14]) (by kernel_rfl) (by simp) ?_
          refine AllReadyH.cons (o := _) rfl (fun K' hK => ?_) ?_
          · go_simp
            rw [← HW9.out]
            refine hK.out _ _ (S1.out.kept G9.out) (fun hHeld => ?_)
            clear hK K'
            try simp only [Act.put, List.getElem_toArray, List.getElem_cons_succ, List.getElem_cons_zero, List.setIfInBounds_toArray, List.set_cons_zero, List.set_cons_succ]
            refine wpAnyH_done (by kernel_rfl) ?_ _
            go_wp2_with fail
            go_meet
            case rel => exact MB.out
          exact AllReadyH.nil
        exact AllReadyH.nil
      exact AllReadyH.nil
    exact AllReadyH.nil
  case rest =>
    clear HC6 HC11 S1
    rename World => wc
    obtain ⟨k5, aF, cF, aE, cE, rfl, hbx, hk5, iF, iE, nF, nE, hgc⟩ := hcut
    have HWC : Hid (W1.grownBy wc none) := hgc
    have HKL : Hid (k5 < wc.heap.size) := (Array.getElem?_eq_some_iff.1 hbx.heap).1
    have HNF : Hid ((∀ y, aF = some y → W1.heap.size ≤ y.block ∧ y.block < wc.heap.size ∧ y.block ≠ k5) ∧ (∀ y, aE = some y → W1.heap.size ≤ y.block ∧ y.block < wc.heap.size ∧ y.block ≠ k5) ∧ W1.heap.size ≤ k5) := ⟨nF, nE, hk5⟩
    obtain ⟨B, hB⟩ : ∃ B, wc.heap.size = B := ⟨_, rfl⟩
    rw [hB] at HKL HNF
    have HB1 : Hid (W1.heap.size ≤ B ∧ B ≤ wc.heap.size) := ⟨by rw [← hB]; exact hgc.size, Nat.le_of_eq hB.symm⟩
    have H0 : Hid (PaSt B k5 W1 x y L6 L11 aF cF aE cE 0 none 0 [] wc) := ⟨hbx, StepO.nil, rfl, rfl, iF, iE, hgc, HB1.out.2⟩
    have x0 := (BX.out wc hgc).b0
    have hp8 := HG.out.1.size.2
    have hq8 := HG.out.2.1.size.2
    obtain ⟨p, hp⟩ : ∃ p, x.F.length = p := ⟨_, rfl⟩
    obtain ⟨q, hq⟩ : ∃ q, y.F.length = q := ⟨_, rfl⟩
    have HPQ : Hid (x.F.length = p ∧ y.F.length = q) := ⟨hp, hq⟩
    rw [hp] at hp8
    rw [hq] at hq8
    have HM : Hid (∀ i, i ≤ p → i * q ≤ 64) := fun i hi => Nat.le_trans (Nat.mul_le_mul (Nat.le_trans hi hp8) hq8) (by omega)
    have HA4 : Hid (an2 ≤ 4) := by have h1 := HG.out.1.let_.2; have h2 := HG.out.2.2.2.2.2; show _ ≤ _; omega
    clear hbx hk5 iF iE nF nE hgc hB hp hq
    go_wp2_with fail
    clear x0
    go_loopw [27] (fun v W => ∃ (l : Nat) (aS : Option Addr) (cS : Nat) (ts : List Tbl), v = .int .i64 l ∧ l ≤ an2 ∧ PaSt B k5 W1 x y L6 L11 aF cF aE cE l aS cS ts W) (fun v _ => an2 - (intOf v).toNat)
    case atStart => exact ⟨0, none, 0, [], rfl, Nat.zero_le _, H0.out⟩
    case round =>
      clear H0
      obtain ⟨wl, hwl⟩ : ∃ W, W = wr := ⟨_, rfl⟩
      subst hwl
      obtain ⟨l, aS, cS, ts, rfl, hl, hst⟩ := hrel
      have HS : Hid (PaSt B k5 W1 x y L6 L11 aF cF aE cE l aS cS ts wl) := hst
      clear hst
      by_cases hll : l < an2
      · have i1 : (l : Int) < x.L := by have := HG.out.2.2.2.2.2; omega
        have i2 : (l : Int) < (an2 : Int) := by omega
        have i3 : (l : Int) < (bn2 : Int) := by have := HG.out.2.2.2.2.1; omega
        have hlx : l < x.S.length := by rw [HG.out.2.2.1]; exact hll
        have hly : l < y.S.length := by rw [HG.out.2.2.2.1]; exact hll
        have x2 := (BX.out wl HS.out.gr).b2
        obtain ⟨b4, o4, ha2, hc4⟩ := (HTX.out wl HS.out.gr).step.at hlx
        obtain ⟨r4, k4, c4, hr4, hm4⟩ := hc4 l hlx
        have shx := HG.out.1.shape.2.2 _ (tabW_mem hlx)
        have shy := HG.out.2.1.shape.2.2 _ (tabW_mem hly)
        have inx := HG.out.1.within.2.2 _ (tabW_mem hlx)
        have iny := HG.out.2.1.within.2.2 _ (tabW_mem hly)
        obtain ⟨T1, hT1⟩ : ∃ T, tabW x l = T := ⟨_, rfl⟩
        obtain ⟨T2, hT2⟩ : ∃ T, tabW y l = T := ⟨_, rfl⟩
        have eT1 : x.S.getD l [] = T1 := hT1
        rw [hT1, HPQ.out.1] at shx
        rw [hT2, HPQ.out.2] at shy
        rw [hT1] at inx
        rw [hT2] at iny
        rw [eT1] at c4 hr4 hm4
        rw [shx.1] at c4
        have HTT : Hid (tabW x l = T1 ∧ tabW y l = T2 ∧ T1.length = p ∧ T2.length = q ∧ (∀ r, r ∈ T1 → r.length = p ∧ InW r 9) ∧ (∀ r, r ∈ T2 → r.length = q ∧ InW r 9)) := ⟨hT1, hT2, shx.1, shy.1, fun r hr => ⟨shx.2 r hr, inx r hr⟩, fun r hr => ⟨shy.2 r hr, iny r hr⟩⟩
        have HR4 : Hid (RowsAt wl r4 T1) := hr4
        have HA2 : Hid (a2 = some ⟨b4, o4, none⟩) := ha2
        subst ha2
        clear hc4 hm4 shx shy inx iny hT1 hT2 eT1 hr4 hlx
        go_wp2_with fail
        clear x2 c4
        go_loopw [36, 7] (fun v u W => ∃ (i : Nat) (a : Option Addr) (c N : Nat) (ps : List Wrd), v = .int .i64 i ∧ u = .slice a N c ∧ i ≤ p ∧ RowsO wl.heap.size W.heap.size W a c ps ∧ wl.grownBy W none ∧ ps.length = N ∧ N ≤ 200 ∧ wdL ps = kroT (T1.take i) T2) (fun v _ _ => p - (intOf v).toNat)
        case atStart => exact ⟨0, none, 0, 0, [], rfl, rfl, Nat.zero_le _, RowsO.nil, grown_refl _ _, rfl, by omega, rfl⟩
        case round =>
          obtain ⟨wi, hwi⟩ : ∃ W, W = wr := ⟨_, rfl⟩
          subst hwi
          obtain ⟨i, a, c, N, ps, rfl, rfl, hi, ho, hg, hN, hN2, hw⟩ := hrel
          have HO : Hid (RowsO wl.heap.size wi.heap.size wi a c ps ∧ wl.grownBy wi none ∧ ps.length = N ∧ N ≤ 200 ∧ wdL ps = kroT (T1.take i) T2) := ⟨ho, hg, hN, hN2, hw⟩
          clear ho hg hN hw
          by_cases hip : i < p
          · have i4 : (i : Int) < (p : Int) := by omega
            have hi1 : i < T1.length := by rw [HTT.out.2.2.1]; exact hip
            obtain ⟨b5, o5, rfl, hc5⟩ := HR4.out.at hi1
            obtain ⟨r5, k5', c5', hr5, _⟩ := hc5 i hi1
            have c5 := HO.out.2.1.cell c5' (by simp)
            clear c5'
            have hrw := HTT.out.2.2.2.2.1 _ (mem_getD hi1)
            obtain ⟨R1, hR1⟩ : ∃ R, T1.getD i [] = R := ⟨_, rfl⟩
            rw [hR1] at c5 hr5 hrw
            rw [hrw.1] at c5
            have HR1 : Hid (T1.getD i [] = R1 ∧ R1.length = p ∧ InW R1 9 ∧ Ints wl r5 R1) := ⟨hR1, hrw.1, hrw.2, hr5⟩
            have GI : Hid (W1.grownBy wi none) := grown_trans HS.out.gr HO.out.2.1
            have y2 := (BY.out wi GI.out).b2
            obtain ⟨b6, o6, hb2, hc6⟩ := (HTY.out wl HS.out.gr).step.at hly
            obtain ⟨r6, k6, c6', hr6, hm6⟩ := hc6 l hly
            have c6 := HO.out.2.1.cell c6' (by simp)
            clear c6'
            have eT2 : y.S.getD l [] = T2 := HTT.out.2.1
            rw [eT2] at c6 hr6 hm6
            rw [HTT.out.2.2.2.1] at c6
            have HR6 : Hid (RowsAt wl r6 T2) := hr6
            have HB2 : Hid (b2 = some ⟨b6, o6, none⟩) := hb2
            rw [hb2] at y2
            clear hc5 hr5 hrw hR1 hc6 hm6 eT2 hr6 hb2
            go_wp2_with fail
            clear c5 c6 y2
            go_loopw [46, 7] (fun v u W => ∃ (j : Nat) (a : Option Addr) (c N : Nat) (ps : List Wrd), v = .int .i64 j ∧ u = .slice a N c ∧ j ≤ q ∧ RowsO wl.heap.size W.heap.size W a c ps ∧ wl.grownBy W none ∧ ps.length = N ∧ N ≤ 200 ∧ wdL ps = kroT (T1.take i) T2 ++ (T2.take j).map fun o => kroR R1 o) (fun v _ _ => q - (intOf v).toNat)
            case atStart => exact ⟨0, a, c, N, ps, rfl, rfl, Nat.zero_le _, HO.out.1, HO.out.2.1, HO.out.2.2.1, HO.out.2.2.2.1, by rw [HO.out.2.2.2.2]; simp⟩
            case round =>
              obtain ⟨wj, hwj⟩ : ∃ W, W = wr := ⟨_, rfl⟩
              subst hwj
              obtain ⟨j, a', c', M, ps', rfl, rfl, hj, ho, hg, hM, hM2, hw⟩ := hrel
              have HJ : Hid (RowsO wl.heap.size wj.heap.size wj a' c' ps' ∧ wl.grownBy wj none ∧ ps'.length = M ∧ M ≤ 200 ∧ wdL ps' = kroT (T1.take i) T2 ++ (T2.take j).map fun o => kroR R1 o) := ⟨ho, hg, hM, hM2, hw⟩
              clear ho hg hM hw
              by_cases hjq : j < q
              · have i5 : (j : Int) < (q : Int) := by omega
                have hj1 : j < T2.length := by rw [HTT.out.2.2.2.1]; exact hjq
                obtain ⟨b7, o7, rfl, hc7⟩ := (HR6.out.grown HJ.out.2.1).at hj1
                obtain ⟨r7, k7, c7, hr7, _⟩ := hc7 j hj1
                have hrw := HTT.out.2.2.2.2.2 _ (mem_getD hj1)
                obtain ⟨R2, hR2⟩ : ∃ R, T2.getD j [] = R := ⟨_, rfl⟩
                rw [hR2] at c7 hr7 hrw
                rw [hrw.1] at c7
                obtain ⟨Wd, hWd⟩ : ∃ l, kroR R1 R2 = l := ⟨_, rfl⟩
                have HWd : Hid (kroR R1 R2 = Wd ∧ T2.getD j [] = R2 ∧ Wd.length ≤ 1000) := ⟨hWd, hR2, by rw [← hWd, kroR_len, HR1.out.2.1, hrw.1]; exact Nat.le_trans (HM.out p (Nat.le_refl _)) (by omega)⟩
                have HC0 := rowPaired_any R1 R2 r5 r7 p q k5' k7 wj (HR1.out.2.2.2.grown HJ.out.2.1) hr7 HR1.out.2.1 hrw.1 (by omega) (by omega) (in9 HR1.out.2.2.1) (in9 hrw.2)
                rw [hWd] at HC0
                have HC : Hid (Calls Try.prog 24 #[.slice r5 p k5', .slice r7 q k7] wj (RowI Wd wj)) := HC0
                clear hc7 hr7 hrw hR2 hWd HC0
                go_wp2_with fail
                clear c7
                refine HC.out.mono ?_
                rintro E w6 ⟨a6, c6, rfl, h6⟩
                obtain ⟨a8, c8, w8, hrun, ho8, hs8, hf8⟩ := HJ.out.1.one HJ.out.2.2.1 (by omega) HJ.out.2.1.size (Nat.le_refl _) h6.gr (a6, c6, Wd) h6.ints HWd.out.2.2 h6.new
                simp only [wdV] at hrun
                have HW8 : Hid (wdL (ps' ++ [(a6, c6, Wd)]) = kroT (T1.take i) T2 ++ (T2.take (j + 1)).map fun o => kroR R1 o) := by
                  show _ = _
                  rw [take_snocR hj1, List.map_append, ← List.append_assoc, ← HJ.out.2.2.2.2, HWd.out.2.1]
                  simp [wdL, HWd.out.1]
                have HM8 : Hid (M + 1 ≤ 200) := by
                  have h1 := HM.out (i + 1) (by omega)
                  have h2 : (wdL (ps' ++ [(a6, c6, Wd)])).length = M + 1 := by rw [wdL_len, List.length_append, HJ.out.2.2.1]; rfl
                  rw [HW8.out, List.length_append, kroT_len, List.length_map, List.length_take, List.length_take, HTT.out.2.2.1, HTT.out.2.2.2.1, Nat.min_eq_left hi, Nat.min_eq_left (by omega : j + 1 ≤ q)] at h2
                  rw [Nat.succ_mul] at h1
                  show _ ≤ _
                  omega
                have HO8 : Hid (RowsO wl.heap.size w8.heap.size w8 a8 c8 (ps' ++ [(a6, c6, Wd)]) ∧ wl.grownBy w8 none ∧ (ps' ++ [(a6, c6, Wd)]).length = M + 1) := ⟨ho8, hf8 wl (Nat.le_refl _) (grown_trans HJ.out.2.1 h6.gr), by rw [List.length_append, HJ.out.2.2.1]; rfl⟩
                clear h6 ho8 hs8 hf8 HC
                go_wp2_with fail
                go_roundw
                case rel => exact ⟨j + 1, a8, c8, M + 1, _, by go_num, rfl, by omega, HO8.out.1, HO8.out.2.1, HO8.out.2.2, HM8.out, HW8.out⟩
                case measure => simp [intOf]; omega
              · have i5 : ¬ (j : Int) < (q : Int) := by omega
                have HW : Hid (wdL ps' = kroT (T1.take (i + 1)) T2) := by
                  show _ = _
                  have e : T2.take j = T2 := List.take_of_length_le (by rw [HTT.out.2.2.2.1]; omega)
                  rw [HJ.out.2.2.2.2, e, take_snocR hi1, HR1.out.1]
                  unfold kroT
                  rw [List.flatMap_append]
                  simp
                go_wp2_with fail
                go_roundw
                case rel => exact ⟨i + 1, a', c', M, ps', by go_num, rfl, by omega, HJ.out.1, HJ.out.2.1, HJ.out.2.2.1, HJ.out.2.2.2.1, HW.out⟩
                case measure => simp [intOf]; omega
          · have i4 : ¬ (i : Int) < (p : Int) := by omega
            have HW : Hid (wdL ps = kroT (tabW x l) (tabW y l) ∧ ps.length ≤ 1000) := by
              have e : T1.take i = T1 := List.take_of_length_le (by rw [HTT.out.2.2.1]; omega)
              exact ⟨by rw [HO.out.2.2.2.2, e, HTT.out.1, HTT.out.2.1], by rw [HO.out.2.2.1]; omega⟩
            have hbi : BxW wi k5 x.L aF L6.length cF aS l cS aE L11.length cE := ⟨(HO.out.2.1.block k5 (by have := HKL.out; have := HS.out.sz; omega) (by simp)).trans HS.out.box.heap⟩
            obtain ⟨a8, c8, w8, hrun, hs8, hf8, hk8, hz8, hg8⟩ := HS.out.step.one HS.out.len (by have := HA4.out; omega) HS.out.sz HO.out.2.1 ⟨wl.heap.size, wi.heap.size, a, c, ps⟩ HO.out.1 (Nat.le_refl _) (Nat.le_refl _) HW.out.2
            simp only [tbV, HO.out.2.2.1] at hrun
            have hb8 : BxW w8 k5 x.L aF L6.length cF aS l cS aE L11.length cE := ⟨hk8 k5 _ HKL.out hbi.heap⟩
            have x5 := hbi.box.1.b2
            have f5 := hb8.box.2 2
            have x8 := hb8.box.1.b2
            have hfar : ∀ (a0 : Option Addr) (us : List Int), Ints wl a0 us → (∀ y, a0 = some y → W1.heap.size ≤ y.block ∧ y.block < B ∧ y.block ≠ k5) → Ints (w8.setCell ⟨k5, 2, none⟩ (.slice a8 (l + 1) c8)) a0 us := fun a0 us hi0 hn0 => by
              have h1 := hi0.grown HO.out.2.1
              have h2 : Ints w8 a0 us := by
                cases hob : (Value.slice aS l cS).ownBlock with
                | none => rw [hob] at hg8; exact h1.grown hg8
                | some g =>
                  rw [hob] at hg8
                  have hBg := (HS.out.step.own.lt g (by rw [HS.out.len]; exact hob)).1
                  exact intsN_far h1 (fun _ y hy => by have := hn0 y hy; omega) hg8
              exact intsN_far h2 (fun _ y hy => (hn0 y hy).2.2) (grown_set _ _ _)
            have HS9 : Hid (PaSt B k5 W1 x y L6 L11 aF cF aE cE (l + 1) a8 c8 (ts ++ [⟨wl.heap.size, wi.heap.size, a, c, ps⟩]) (w8.setCell ⟨k5, 2, none⟩ (.slice a8 (l + 1) c8))) := by
              refine ⟨hb8.step _ _ _, hs8.below (grown_set _ _ _) HKL.out, by rw [List.length_append, HS.out.len]; rfl, ?_, hfar _ _ HS.out.iF HNF.out.1, hfar _ _ HS.out.iE HNF.out.2.1, grown_new (hf8 W1 HB1.out.1 (grown_trans HS.out.gr HO.out.2.1)) (grown_set _ _ _) HNF.out.2.2, ?_⟩
              · rw [List.range_succ, List.map_append, ← HS.out.val]
                simp [tbL, HW.out.1]
              · have h1 := HS.out.sz
                have h2 := HO.out.2.1.size
                have h3 : (w8.setCell ⟨k5, 2, none⟩ (.slice a8 (l + 1) c8)).heap.size = w8.heap.size := by simp
                omega
            have i6 : an2 ≤ 4 := HA4.out
            clear hbi hs8 hf8 hk8 hz8 hg8 hb8 hfar
            go_wp2_with fail
            go_roundw
            case rel => exact ⟨l + 1, a8, c8, _, by go_num, by omega, HS9.out⟩
            case measure => simp [intOf]; omega
      · have i1 : ¬ (l : Int) < x.L := by have := HG.out.2.2.2.2.2; omega
        have el : l = an2 := by omega
        have bxl := HS.out.box.box.1
        have u0 := bxl.b0
        have u1 := bxl.b1
        have u2 := bxl.b2
        have u3 := bxl.b3
        obtain ⟨⟨p0, p1, p2, p3⟩, fz, W9, hW9, g9, hb9⟩ := four_store (HZ.out wl HS.out.gr) (.int .i64 x.L) (.slice aF L6.length cF) (.slice aS l cS) (.slice aE L11.length cE)
        have HW9 : Hid (W9 = _) := hW9
        have b9 := (BxW.mk (L := x.L) hb9).box.1
        have y0 := b9.b0
        have y1 := b9.b1
        have y2 := b9.b2
        have y3 := b9.b3
        have HSt : Hid (StepO B W9 aS cS ts) := HS.out.step.below g9 (by have := HB1.out.1; have := HS1.out; omega)
        have HFE : Hid (Ints W9 aF L6 ∧ Ints W9 aE L11) := ⟨intsN_far HS.out.iF (fun _ y hy => by have := HNF.out.1 y hy; have := HS1.out; omega) g9, intsN_far HS.out.iE (fun _ y hy => by have := HNF.out.2.1 y hy; have := HS1.out; omega) g9⟩
        have HTb : Hid (tbL ts = (List.range an2).map fun l => kroT (tabW x l) (tabW y l)) := by show _ = _; rw [HS.out.val, el]
        have HLn : Hid (L6.length ≤ maxLen ∧ L11.length ≤ maxLen ∧ an2 ≤ maxLen) := by
          have e1 : L6 = kroR x.F y.F := congrArg WgI.F HK.out.symm
          have e2 : L11 = kroR x.E y.E := congrArg WgI.E HK.out.symm
          have h1 := HM.out p (Nat.le_refl _)
          refine ⟨?_, ?_, ?_⟩
          · rw [e1, kroR_len, HPQ.out.1, HPQ.out.2]; unfold maxLen; omega
          · rw [e2, kroR_len, HG.out.1.shape.1, HG.out.2.1.shape.1, HPQ.out.1, HPQ.out.2]; unfold maxLen; omega
          · have := HA4.out; unfold maxLen; omega
        have hwg : ∀ W, Ints W aF L6 → Ints W aE L11 → StepO B W aS cS ts → WgAt W (kroA x y) aF aS aE := fun W h1 h2 h3 => by
          rw [HK.out]
          have ht := h3.tab
          rw [HTb.out] at ht
          exact ⟨h1, ht, h2, HLn.out.1, by simpa using HLn.out.2.2, HLn.out.2.1⟩
        have F : Hid (Po (.returned (wgV x.L aF L6.length cF aS l cS aE L11.length cE)) W9) := by
          show Po _ _
          rw [HPo.out]
          refine ⟨aF, aS, aE, cF, cS, cE, ?_, hwg W9 HFE.out.1 HFE.out.2 HSt.out, grown_new (grown_trans G1.out HS.out.gr) g9 (by omega), fun b W hb hg => hwg W (intsN_far HFE.out.1 (fun _ y hy => by have := HNF.out.1 y hy; have := HS1.out; omega) hg) (intsN_far HFE.out.2 (fun _ y hy => by have := HNF.out.2.1 y hy; have := HS1.out; omega) hg) (HSt.out.below hg (by have := HB1.out.1; have := HS1.out; omega))⟩
          rw [HK.out, el]
          simp
        have f0 := fz 0
        have f1 := fz 1
        have f2 := fz 2
        have f3 := fz 3
        clear bxl fz hW9 g9 hb9 b9 hwg el
        go_wp2_with fail
        rw [← HW9.out]
        exact bodyPost_ret (v := wgV x.L aF L6.length cF aS l cS aE L11.length cE) (by simp [results, Try.results14, go_sem, y0, y1, y2, y3]) rfl F.out
end Go.Proofs.Ytkmcbdjcolbknaa
