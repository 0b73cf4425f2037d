/- One beside the other: the program's beside. -/
import Derived.Test.YtkmcbdjcolbknaaWePair
namespace Go.Proofs.Ytkmcbdjcolbknaa
open Go.RowKit
set_option linter.unusedVariables false
set_option linter.unusedSimpArgs false

/-- What holds behind l letters. -/
structure BeSt (B k : Nat) (W1 : World) (x y : WgI) (L6 L11 : List Int) (aF : Option Addr) (cF : Nat) (aE : Option Addr) (cE : Nat) (l : Nat) (aS : Option Addr) (cS : Nat) (ts : List Tbl) (W : World) : Prop where
  box : BxW W k x.L aF L6.length cF aS l cS aE L11.length cE
  step : StepO B W aS cS ts
  len : ts.length = l
  val : tbL ts = (List.range l).map fun l => besT (tabW x l) (tabW y l)
  iF : Ints W aF L6
  iE : Ints W aE L11
  gr : W1.grownBy W none
  sz : B ≤ W.heap.size
def SBs (k : Nat) (vx vy : Value) (b4 o4 : Nat) (v4 : Value) (b6 o6 : Nat) (v6 : Value) (W : World) : Prop :=
  W.cell? ⟨k, 2, none⟩ = some vx ∧ W.cell? ⟨k + 1, 2, none⟩ = some vy ∧ W.cell? ⟨b4, o4, none⟩ = some v4 ∧ W.cell? ⟨b6, o6, none⟩ = some v6
theorem SBs.kept {k : Nat} {vx vy : Value} {b4 o4 : Nat} {v4 : Value} {b6 o6 : Nat} {v6 : Value} {W W' : World} (h : SBs k vx vy b4 o4 v4 b6 o6 v6 W) (g : W.grownBy W' none) : SBs k vx vy b4 o4 v4 b6 o6 v6 W' := by
  obtain ⟨h0, h1, h2, h3⟩ := h
  exact ⟨g.cell h0 (by simp), g.cell h1 (by simp), g.cell h2 (by simp), g.cell h3 (by simp)⟩

attribute [local go_sem ↓] appY_fold in
set_option maxHeartbeats 3200000 in
set_option maxRecDepth 100000 in
theorem beside_any (x y : WgI) (hx : GoodWg x) (hy : GoodWg y) (hL : x.S.length = y.S.length) (a1 a2 a3 b1 b2 b3 : Option Addr) (an1 an2 an3 ac1 ac2 ac3 bn1 bn2 bn3 bc1 bc2 bc3 : Nat) (w : World) (mx : WgAt w x a1 a2 a3) (my : WgAt w y b1 b2 b3) (ex1 : x.F.length = an1) (ex2 : x.S.length = an2) (ex3 : x.E.length = an3) (ey1 : y.F.length = bn1) (ey2 : y.S.length = bn2) (ey3 : y.E.length = bn3) :
    Calls Try.prog 12 #[wgV x.L a1 an1 ac1 a2 an2 ac2 a3 an3 ac3, wgV y.L b1 bn1 bc1 b2 bn2 bc2 b3 bn3 bc3] w (MadeP (besA x y) w) := by
  obtain ⟨A0, hA0, g0, s0, bx⟩ := box4_new w x.L a1 an1 ac1 a2 an2 ac2 a3 an3 ac3
  obtain ⟨A1, hA1, g1, s1, by'⟩ := box4_new A0 y.L b1 bn1 bc1 b2 bn2 bc2 b3 bn3 bc3
  obtain ⟨W1, hW1, g2, s2, bz⟩ := box4_new A1 0 none 0 0 none 0 0 none 0 0
  rw [s0] at by'
  have HW1 : Hid (W1 = ((w.alloc (wgO x.L a1 an1 ac1 a2 an2 ac2 a3 an3 ac3)).alloc (wgO y.L b1 bn1 bc1 b2 bn2 bc2 b3 bn3 bc3)).alloc (wgO 0 none 0 0 none 0 0 none 0 0)) := by show _ = _; rw [hW1, hA1, hA0]
  have G1 : Hid (w.grownBy W1 none) := grown_trans g0 (grown_trans g1 g2)
  have HS1 : Hid (W1.heap.size = w.heap.size + 1 + 1 + 1) := by show _ = _; omega
  have BX : Hid (∀ W, W1.grownBy W none → Box4 W w.heap.size x.L a1 an1 ac1 a2 an2 ac2 a3 an3 ac3) := fun W hW => bx.grown (grown_trans g1 (grown_trans g2 hW))
  have BY : Hid (∀ W, W1.grownBy W none → Box4 W (w.heap.size + 1) y.L b1 bn1 bc1 b2 bn2 bc2 b3 bn3 bc3) := fun W hW => by'.grown (grown_trans g2 hW)
  have HZ : Hid (∀ W, W1.grownBy W none → W.heap[w.heap.size + 1 + 1]? = some (.cells #[.int .i64 0, .slice none 0 0, .slice none 0 0, .slice none 0 0] 25)) := fun W hW => by
    have h1 := heap_alloc_new A1 (wgO 0 none 0 0 none 0 0 none 0 0)
    rw [← hW1, s1, s0] at h1
    exact (hW.block _ (by omega) (by simp)).trans h1
  have hn8 : x.F.length ≤ 8 := hx.size.2
  have hm8 : y.F.length ≤ 8 := hy.size.2
  have hn9 := hx.shape.1
  have hm9 := hy.shape.1
  have CTA0 : ∀ (W : World) (g2 : Nat), W1.grownBy W none → C2 W g2 (.slice a1 x.F.length ac1) (.slice b1 y.F.length bc1) → Calls Try.prog 21 #[.slice (some ⟨g2, 0, none⟩) 2 2] W (CatX (x.F ++ y.F) W) := fun W g hW c2 => catX_any _ _ _ _ _ _ g W (mx.first.grown (grown_trans G1.out hW)) (my.first.grown (grown_trans G1.out hW)) (by omega) (by omega) c2.1 c2.2
  have CTB0 : ∀ (W : World) (g2 : Nat), W1.grownBy W none → C2 W g2 (.slice a3 x.E.length ac3) (.slice b3 y.E.length bc3) → Calls Try.prog 21 #[.slice (some ⟨g2, 0, none⟩) 2 2] W (CatX (x.E ++ y.E) W) := fun W g hW c2 => catX_any _ _ _ _ _ _ g W (mx.last.grown (grown_trans G1.out hW)) (my.last.grown (grown_trans G1.out hW)) (by omega) (by omega) c2.1 c2.2
  rw [ex1, ey1] at CTA0
  rw [ex3, ey3] at CTB0
  obtain ⟨L6, hL6⟩ : ∃ l, x.F ++ y.F = l := ⟨_, rfl⟩
  obtain ⟨L11, hL11⟩ : ∃ l, x.E ++ y.E = l := ⟨_, rfl⟩
  rw [hL6] at CTA0
  rw [hL11] at CTB0
  have CTA : Hid (∀ (W : World) (g2 : Nat), W1.grownBy W none → C2 W g2 (.slice a1 an1 ac1) (.slice b1 bn1 bc1) → Calls Try.prog 21 #[.slice (some ⟨g2, 0, none⟩) 2 2] W (CatX L6 W)) := CTA0
  have CTB : Hid (∀ (W : World) (g2 : Nat), W1.grownBy W none → C2 W g2 (.slice a3 an3 ac3) (.slice b3 bn3 bc3) → Calls Try.prog 21 #[.slice (some ⟨g2, 0, none⟩) 2 2] W (CatX L11 W)) := CTB0
  have S1 : Hid (SPr w.heap.size x.L (.slice a1 an1 ac1) (.slice a3 an3 ac3) (.slice b1 bn1 bc1) (.slice b3 bn3 bc3) W1) := ⟨(BX.out W1 (grown_refl _ _)).b0, (BX.out W1 (grown_refl _ _)).b1, (BX.out W1 (grown_refl _ _)).b3, (BY.out W1 (grown_refl _ _)).b1, (BY.out W1 (grown_refl _ _)).b3⟩
  have HTX : Hid (∀ W, W1.grownBy W none → WgAt W x a1 a2 a3) := fun W hW => mx.grown (grown_trans G1.out hW)
  have HTY : Hid (∀ W, W1.grownBy W none → WgAt W y b1 b2 b3) := fun W hW => my.grown (grown_trans G1.out hW)
  have HG : Hid (GoodWg x ∧ GoodWg y ∧ x.S.length = an2 ∧ y.S.length = an2 ∧ bn2 = an2 ∧ x.L = (an2 : Int)) := ⟨hx, hy, ex2, by omega, by omega, by have := hx.shape.2.1; omega⟩
  have HK : Hid (besA x y = ⟨x.L, L6, (List.range an2).map (fun l => besT (tabW x l) (tabW y l)), L11⟩) := by show _ = _; rw [← hL6, ← hL11, ← ex2]; rfl
  have HL16 : Hid (L6.length ≤ 16 ∧ L11.length ≤ 16) := ⟨by rw [← hL6, List.length_append]; omega, by rw [← hL11, List.length_append]; omega⟩
  obtain ⟨Po, hPo⟩ : ∃ P, P = MadeP (besA x y) w := ⟨_, rfl⟩
  have HPo : Hid (Po = MadeP (besA x y) w) := hPo
  rw [← hPo]
  clear CTA0 CTB0 hA0 hA1 hW1 g0 g1 g2 s0 s1 s2 bx by' bz hn8 hm8 hn9 hm9 hL6 hL11 mx my hx hy hL ex1 ex2 ex3 ey1 ey2 ey3 hPo
  go_enter Try.func12, Try.ntmps12
  go_wp2_with fail
  rw [← HW1.out]
  go_cut [5] (fun v wc => BMid W1 x.L L6 L11 v wc)
  case first =>
    refine wp_region_held_drew (S := SPr w.heap.size x.L (.slice a1 an1 ac1) (.slice a3 an3 ac3) (.slice b1 bn1 bc1) (.slice b3 bn3 bc3)) (by kernel_rfl) (S1.out.kept (grown_drew (grown_refl _ _))) (fun hHeld => ?_)
    obtain ⟨Wd, hWd⟩ : ∃ W, W = W1.drew := ⟨_, rfl⟩
    rw [← hWd] at hHeld ⊢
    have Gd : Hid (W1.grownBy Wd none) := by show World.grownBy _ _ _; rw [hWd]; exact grown_drew (grown_refl _ _)
    clear hWd
    refine wpAnyH_take (i := 0) (v := ?_) rfl (by kernel_rfl) (by kernel_rfl) (by kernel_rfl) (fun _ _ _ h => h) (Or.inl ⟨by rfl, ?_⟩) (by assumption) ?_
    rotate_left
    · intro W hSw
      obtain ⟨q0, q1, q2, q3, q4⟩ := hSw
      go_simp
      with_reducible rfl
    try simp only [Act.put, List.getElem_toArray, List.getElem_cons_succ, List.getElem_cons_zero, List.setIfInBounds_toArray, List.set_cons_zero, List.set_cons_succ]
    refine wpAnyH_take (i := 1) (v := ?_) rfl (by kernel_rfl) (by kernel_rfl) (by kernel_rfl) (fun _ _ _ h => h) (Or.inl ⟨by rfl, ?_⟩) (by assumption) ?_
    rotate_left
    · intro W hSw
      obtain ⟨q0, q1, q2, q3, q4⟩ := hSw
      go_simp
      with_reducible rfl
    try simp only [Act.put, List.getElem_toArray, List.getElem_cons_succ, List.getElem_cons_zero, List.setIfInBounds_toArray, List.set_cons_zero, List.set_cons_succ]
    refine wpAnyH_take (i := 2) (v := ?_) rfl (by kernel_rfl) (by kernel_rfl) (by kernel_rfl) (fun _ _ _ h => h) (Or.inl ⟨by rfl, ?_⟩) (by assumption) ?_
    rotate_left
    · intro W hSw
      obtain ⟨q0, q1, q2, q3, q4⟩ := hSw
      go_simp
      with_reducible rfl
    try simp only [Act.put, List.getElem_toArray, List.getElem_cons_succ, List.getElem_cons_zero, List.setIfInBounds_toArray, List.set_cons_zero, List.set_cons_succ]
    refine wpAnyH_take (i := 3) (v := ?_) rfl (by kernel_rfl) (by kernel_rfl) (by kernel_rfl) (fun _ _ _ h => h) (Or.inl ⟨by rfl, ?_⟩) (by assumption) ?_
    rotate_left
    · intro W hSw
      obtain ⟨q0, q1, q2, q3, q4⟩ := hSw
      go_simp
      with_reducible rfl
    try simp only [Act.put, List.getElem_toArray, List.getElem_cons_succ, List.getElem_cons_zero, List.setIfInBounds_toArray, List.set_cons_zero, List.set_cons_succ]
    refine wpAnyH_take (i := 4) (v := ?_) rfl (by kernel_rfl) (by kernel_rfl) (by kernel_rfl) (fun _ _ _ h => h) (Or.inl ⟨by rfl, ?_⟩) (by assumption) ?_
    rotate_left
    · intro W hSw
      obtain ⟨q0, q1, q2, q3, q4⟩ := hSw
      go_simp
      with_reducible rfl
    try simp only [Act.put, List.getElem_toArray, List.getElem_cons_succ, List.getElem_cons_zero, List.setIfInBounds_toArray, List.set_cons_zero, List.set_cons_succ]
    refine wpAnyH_take (i := 5) (v := ?_) rfl (by kernel_rfl) (by kernel_rfl) (by kernel_rfl) (fun _ _ _ h => h) (Or.inl ⟨by rfl, ?_⟩) (by assumption) ?_
    rotate_left
    · intro W hSw
      obtain ⟨q0, q1, q2, q3, q4⟩ := hSw
      go_simp
      with_reducible rfl
    try simp only [Act.put, List.getElem_toArray, List.getElem_cons_succ, List.getElem_cons_zero, List.setIfInBounds_toArray, List.set_cons_zero, List.set_cons_succ]
    refine wpAnyH_take (i := 8) (v := ?_) rfl (by kernel_rfl) (by kernel_rfl) (by kernel_rfl) (fun _ _ _ h => h) (Or.inl ⟨by rfl, ?_⟩) (by assumption) ?_
    rotate_left
    · intro W hSw
      obtain ⟨q0, q1, q2, q3, q4⟩ := hSw
      go_simp
      with_reducible rfl
    try simp only [Act.put, List.getElem_toArray, List.getElem_cons_succ, List.getElem_cons_zero, List.setIfInBounds_toArray, List.set_cons_zero, List.set_cons_succ]
    refine wpAnyH_take (i := 9) (v := ?_) rfl (by kernel_rfl) (by kernel_rfl) (by kernel_rfl) (fun _ _ _ h => h) (Or.inl ⟨by rfl, ?_⟩) (by assumption) ?_
    rotate_left
    · intro W hSw
      obtain ⟨q0, q1, q2, q3, q4⟩ := hSw
      go_simp
      with_reducible rfl
    try simp only [Act.put, List.getElem_toArray, List.getElem_cons_succ, List.getElem_cons_zero, List.setIfInBounds_toArray, List.set_cons_zero, List.set_cons_succ]
    refine wpAnyH_take (i := 10) (v := ?_) rfl (by kernel_rfl) (by kernel_rfl) (by kernel_rfl) (fun _ _ _ h => h) (Or.inl ⟨by rfl, ?_⟩) (by assumption) ?_
    rotate_left
    · intro W hSw
      obtain ⟨q0, q1, q2, q3, q4⟩ := hSw
      go_simp
      with_reducible rfl
    try simp only [Act.put, List.getElem_toArray, List.getElem_cons_succ, List.getElem_cons_zero, List.setIfInBounds_toArray, List.set_cons_zero, List.set_cons_succ]
    refine wpAnyH_take (i := 11) (v := ?_) rfl (by kernel_rfl) (by kernel_rfl) (by kernel_rfl) (fun _ _ _ h => h) (Or.inl ⟨by rfl, ?_⟩) (by assumption) ?_
    rotate_left
    · intro W hSw
      obtain ⟨q0, q1, q2, q3, q4⟩ := hSw
      go_simp
      with_reducible rfl
    try simp only [Act.put, List.getElem_toArray, List.getElem_cons_succ, List.getElem_cons_zero, List.setIfInBounds_toArray, List.set_cons_zero, List.set_cons_succ]
    refine wpAnyH_ready (rs := [6, 12, 15]) (by kernel_rfl) (by simp) ?_
    refine AllReadyH.cons (o := _) rfl (fun K' hK => ?_) ?_
    · go_simp
      obtain ⟨V6, hV⟩ : ∃ W, W = Wd.alloc (.cells #[.slice a1 an1 ac1, .slice b1 bn1 bc1] 22) := ⟨_, rfl⟩
      rw [← hV]
      have gV : Hid (Wd.grownBy V6 none) := by show World.grownBy _ _ _; rw [hV]; exact grown_alloc _ _
      have G6 : Hid (W1.grownBy V6 none) := grown_trans Gd.out gV.out
      have C6 : Hid (C2 V6 Wd.heap.size (.slice a1 an1 ac1) (.slice b1 bn1 bc1)) := by show C2 _ _ _ _; rw [hV]; exact c2_new _ _ _ _
      clear hV gV
      refine hK.out _ _ (S1.out.kept G6.out) (fun hHeld => ?_)
      clear hK K'
      try simp only [Act.put, List.getElem_toArray, List.getElem_cons_succ, List.getElem_cons_zero, List.setIfInBounds_toArray, List.set_cons_zero, List.set_cons_succ]
      refine wpAnyH_ready (rs := [7, 12, 15]) (by kernel_rfl) (by simp) ?_
      refine AllReadyH.cons (o := _) rfl (fun K' hK => ?_) ?_
      · go_simp
        refine (CTA.out _ _ G6.out C6.out).mono ?_
        rintro E V7 ⟨ax, kx, rfl, hix, hgx, hnx, hcx⟩
        have gV : Hid (V6.grownBy V7 none) := hgx
        have G7 : Hid (W1.grownBy V7 none) := grown_trans G6.out hgx
        have IX : Hid (Ints V7 ax L6) := hix
        have NX : Hid (∀ y, ax = some y → W1.heap.size ≤ y.block ∧ y.block < V7.heap.size) := fun y hy => ⟨Nat.le_trans G6.out.size (hnx y hy).1, (hnx y hy).2⟩
        clear hix hgx hnx hcx gV
        go_wp2_with fail
        refine hK.out _ _ (S1.out.kept G7.out) (fun hHeld => ?_)
        clear hK K'
        try simp only [Act.put, List.getElem_toArray, List.getElem_cons_succ, List.getElem_cons_zero, List.setIfInBounds_toArray, List.set_cons_zero, List.set_cons_succ]
        refine wpAnyH_ready (rs := [12, 15]) (by kernel_rfl) (by simp) ?_
        refine AllReadyH.cons (o := _) rfl (fun K' hK => ?_) ?_
        · go_simp
          obtain ⟨V12, hV⟩ : ∃ W, W = V7.alloc (.cells #[.slice a3 an3 ac3, .slice b3 bn3 bc3] 22) := ⟨_, rfl⟩
          rw [← hV]
          have gV : Hid (V7.grownBy V12 none) := by show World.grownBy _ _ _; rw [hV]; exact grown_alloc _ _
          have G12 : Hid (W1.grownBy V12 none) := grown_trans G7.out gV.out
          have C12 : Hid (C2 V12 V7.heap.size (.slice a3 an3 ac3) (.slice b3 bn3 bc3)) := by show C2 _ _ _ _; rw [hV]; exact c2_new _ _ _ _
          have IX : Hid (Ints V12 ax L6) := IX.out.grown gV.out
          have NX : Hid (∀ y, ax = some y → W1.heap.size ≤ y.block ∧ y.block < V12.heap.size) := fun y hy => ⟨(NX.out y hy).1, Nat.lt_of_lt_of_le (NX.out y hy).2 gV.out.size⟩
          clear hV gV
          refine hK.out _ _ (S1.out.kept G12.out) (fun hHeld => ?_)
          clear hK K'
          try simp only [Act.put, List.getElem_toArray, List.getElem_cons_succ, List.getElem_cons_zero, List.setIfInBounds_toArray, List.set_cons_zero, List.set_cons_succ]
          refine wpAnyH_ready (rs := [13, 15]) (by kernel_rfl) (by simp) ?_
          refine AllReadyH.cons (o := _) rfl (fun K' hK => ?_) ?_
          · go_simp
            refine (CTB.out _ _ G12.out C12.out).mono ?_
            rintro E V13 ⟨ay, ky, rfl, hix, hgx, hnx, hcx⟩
            have gV : Hid (V12.grownBy V13 none) := hgx
            have G13 : Hid (W1.grownBy V13 none) := grown_trans G12.out hgx
            have IX : Hid (Ints V13 ax L6) := IX.out.grown gV.out
            have NX : Hid (∀ y, ax = some y → W1.heap.size ≤ y.block ∧ y.block < V13.heap.size) := fun y hy => ⟨(NX.out y hy).1, Nat.lt_of_lt_of_le (NX.out y hy).2 gV.out.size⟩
            have IY : Hid (Ints V13 ay L11) := hix
            have NY : Hid (∀ y, ay = some y → W1.heap.size ≤ y.block ∧ y.block < V13.heap.size) := fun y hy => ⟨Nat.le_trans G12.out.size (hnx y hy).1, (hnx y hy).2⟩
            clear hix hgx hnx hcx gV
            go_wp2_with fail
            refine hK.out _ _ (S1.out.kept G13.out) (fun hHeld => ?_)
            clear hK K'
            try simp only [Act.put, List.getElem_toArray, List.getElem_cons_succ, List.getElem_cons_zero, List.setIfInBounds_toArray, List.set_cons_zero, List.set_cons_succ]
            refine wpAnyH_take (i := 14) (v := ?_) rfl (by kernel_rfl) (by kernel_rfl) (by kernel_rfl) (fun _ _ _ h => h) (Or.inl ⟨by rfl, ?_⟩) (by assumption) ?_
            rotate_left
            · intro W hSw
              obtain ⟨q0, q1, q2, q3, q4⟩ := hSw
              go_simp
              with_reducible rfl
            try simp only [Act.put, List.getElem_toArray, List.getElem_cons_succ, List.getElem_cons_zero, List.setIfInBounds_toArray, List.set_cons_zero, List.set_cons_succ]
            refine wpAnyH_ready (rs := [15]) (by kernel_rfl) (by simp) ?_
            refine AllReadyH.cons (o := _) rfl (fun K' hK => ?_) ?_
            · go_simp
              obtain ⟨V15, hV⟩ : ∃ W, W = V13.alloc (wgO 0 none 0 0 none 0 0 none 0 0) := ⟨_, rfl⟩
              rw [← hV]
              have gV : Hid (V13.grownBy V15 none) := by show World.grownBy _ _ _; rw [hV]; exact grown_alloc _ _
              have G15 : Hid (W1.grownBy V15 none) := grown_trans G13.out gV.out
              have K7 : Hid (∀ y, ax = some y → y.block ≠ V13.heap.size) := fun y hy => by have h1 := (NX.out y hy).2; omega
              have K13 : Hid (∀ y, ay = some y → y.block ≠ V13.heap.size) := fun y hy => by have h1 := (NY.out y hy).2; omega
              have IX : Hid (Ints V15 ax L6) := IX.out.grown gV.out
              have NX : Hid (∀ y, ax = some y → W1.heap.size ≤ y.block ∧ y.block < V15.heap.size) := fun y hy => ⟨(NX.out y hy).1, Nat.lt_of_lt_of_le (NX.out y hy).2 gV.out.size⟩
              have IY : Hid (Ints V15 ay L11) := IY.out.grown gV.out
              have NY : Hid (∀ y, ay = some y → W1.heap.size ≤ y.block ∧ y.block < V15.heap.size) := fun y hy => ⟨(NY.out y hy).1, Nat.lt_of_lt_of_le (NY.out y hy).2 gV.out.size⟩
              have HB : Hid (V15.heap[V13.heap.size]? = some (.cells #[.int .i64 0, .slice none 0 0, .slice none 0 0, .slice none 0 0] 25) ∧ W1.heap.size ≤ V13.heap.size ∧ V13.heap.size < V15.heap.size) := ⟨by rw [hV]; exact heap_alloc_new _ _, G13.out.size, by rw [hV]; simp⟩
              clear hV gV
              refine hK.out _ _ (S1.out.kept G15.out) (fun hHeld => ?_)
              clear hK K'
              try simp only [Act.put, List.getElem_toArray, List.getElem_cons_succ, List.getElem_cons_zero, List.setIfInBounds_toArray, List.set_cons_zero, List.set_cons_succ]
              refine wpAnyH_ready (rs := [16]) (by kernel_rfl) (by simp) ?_
              refine AllReadyH.cons (o := _) rfl (fun K' hK => ?_) ?_
              · obtain ⟨⟨p0, p1, p2, p3⟩, fz, W9, hW9, g9, hb9⟩ := four_store HB.out.1 (.int .i64 x.L) (.slice ax L6.length kx) (.slice none 0 0) (.slice ay L11.length ky)
                have HW9 : Hid (W9 = _) := hW9
                have MB : Hid (BMid W1 x.L L6 L11 (.pointer (some ⟨V13.heap.size, 0, none⟩)) W9) := BMid.b G15.out g9 HB.out.2.1 IX.out IY.out (fun y hy => ⟨(NX.out y hy).1, (NX.out y hy).2, K7.out y hy⟩) (fun y hy => ⟨(NY.out y hy).1, (NY.out y hy).2, K13.out y hy⟩) hb9
                have G9 : Hid (W1.grownBy W9 none) := grown_new G15.out g9 HB.out.2.1
                have f0 := fz 0
                have f1 := fz 1
                have f2 := fz 2
                have f3 := fz 3
                clear fz hW9 g9 hb9
                go_simp
                rw [← HW9.out]
                refine hK.out _ _ (S1.out.kept G9.out) (fun hHeld => ?_)
                clear hK K'
                try simp only [Act.put, List.getElem_toArray, List.getElem_cons_succ, List.getElem_cons_zero, List.setIfInBounds_toArray, List.set_cons_zero, List.set_cons_succ]
                refine wpAnyH_done (by kernel_rfl) ?_ _
                go_wp2_with fail
                go_meet
                case rel => exact MB.out
              exact AllReadyH.nil
            exact AllReadyH.nil
          refine AllReadyH.cons (o := _) rfl (fun K' hK => ?_) ?_
          · go_simp
            obtain ⟨V15, hV⟩ : ∃ W, W = V12.alloc (wgO 0 none 0 0 none 0 0 none 0 0) := ⟨_, rfl⟩
            rw [← hV]
            have gV : Hid (V12.grownBy V15 none) := by show World.grownBy _ _ _; rw [hV]; exact grown_alloc _ _
            have G15 : Hid (W1.grownBy V15 none) := grown_trans G12.out gV.out
            have K7 : Hid (∀ y, ax = some y → y.block ≠ V12.heap.size) := fun y hy => by have h1 := (NX.out y hy).2; omega
            have C12 : Hid (C2 V15 V7.heap.size (.slice a3 an3 ac3) (.slice b3 bn3 bc3)) := C12.out.kept gV.out
            have IX : Hid (Ints V15 ax L6) := IX.out.grown gV.out
            have NX : Hid (∀ y, ax = some y → W1.heap.size ≤ y.block ∧ y.block < V15.heap.size) := fun y hy => ⟨(NX.out y hy).1, Nat.lt_of_lt_of_le (NX.out y hy).2 gV.out.size⟩
            have HB : Hid (V15.heap[V12.heap.size]? = some (.cells #[.int .i64 0, .slice none 0 0, .slice none 0 0, .slice none 0 0] 25) ∧ W1.heap.size ≤ V12.heap.size ∧ V12.heap.size < V15.heap.size) := ⟨by rw [hV]; exact heap_alloc_new _ _, G12.out.size, by rw [hV]; simp⟩
            clear hV gV
            refine hK.out _ _ (S1.out.kept G15.out) (fun hHeld => ?_)
            clear hK K'
            try simp only [Act.put, List.getElem_toArray, List.getElem_cons_succ, List.getElem_cons_zero, List.setIfInBounds_toArray, List.set_cons_zero, List.set_cons_succ]
            refine wpAnyH_ready (rs := [13]) (by kernel_rfl) (by simp) ?_
            refine AllReadyH.cons (o := _) rfl (fun K' hK => ?_) ?_
            · go_simp
              have HBS : Hid (V12.heap.size < V15.heap.size) := HB.out.2.2
              refine (CTB.out _ _ G15.out C12.out).mono ?_
              rintro E V13 ⟨ay, ky, rfl, hix, hgx, hnx, hcx⟩
              have gV : Hid (V15.grownBy V13 none) := hgx
              have G13 : Hid (W1.grownBy V13 none) := grown_trans G15.out hgx
              have IX : Hid (Ints V13 ax L6) := IX.out.grown gV.out
              have NX : Hid (∀ y, ax = some y → W1.heap.size ≤ y.block ∧ y.block < V13.heap.size) := fun y hy => ⟨(NX.out y hy).1, Nat.lt_of_lt_of_le (NX.out y hy).2 gV.out.size⟩
              have HB : Hid (V13.heap[V12.heap.size]? = some (.cells #[.int .i64 0, .slice none 0 0, .slice none 0 0, .slice none 0 0] 25) ∧ W1.heap.size ≤ V12.heap.size ∧ V12.heap.size < V13.heap.size) := ⟨(gV.out.block _ HB.out.2.2 (by simp)).trans HB.out.1, HB.out.2.1, Nat.lt_of_lt_of_le HB.out.2.2 gV.out.size⟩
              have IY : Hid (Ints V13 ay L11) := hix
              have NY : Hid (∀ y, ay = some y → W1.heap.size ≤ y.block ∧ y.block < V13.heap.size) := fun y hy => ⟨Nat.le_trans G15.out.size (hnx y hy).1, (hnx y hy).2⟩
              have K13 : Hid (∀ y, ay = some y → y.block ≠ V12.heap.size) := fun y hy => by have h1 := (hnx y hy).1; have h2 := HBS.out; omega
              clear hix hgx hnx hcx gV
              go_wp2_with fail
              refine hK.out _ _ (S1.out.kept G13.out) (fun hHeld => ?_)
              clear hK K'
              try simp only [Act.put, List.getElem_toArray, List.getElem_cons_succ, List.getElem_cons_zero, List.setIfInBounds_toArray, List.set_cons_zero, List.set_cons_succ]
              refine wpAnyH_take (i := 14) (v := ?_) rfl (by kernel_rfl) (by kernel_rfl) (by kernel_rfl) (fun _ _ _ h => h) (Or.inl ⟨by rfl, ?_⟩) (by assumption) ?_
              rotate_left
              · intro W hSw
                obtain ⟨q0, q1, q2, q3, q4⟩ := hSw
                go_simp
                with_reducible rfl
              try simp only [Act.put, List.getElem_toArray, List.getElem_cons_succ, List.getElem_cons_zero, List.setIfInBounds_toArray, List.set_cons_zero, List.set_cons_succ]
              refine wpAnyH_ready (rs := [16]) (by kernel_rfl) (by simp) ?_
              refine AllReadyH.cons (o := _) rfl (fun K' hK => ?_) ?_
              · obtain ⟨⟨p0, p1, p2, p3⟩, fz, W9, hW9, g9, hb9⟩ := four_store HB.out.1 (.int .i64 x.L) (.slice ax L6.length kx) (.slice none 0 0) (.slice ay L11.length ky)
                have HW9 : Hid (W9 = _) := hW9
                have MB : Hid (BMid W1 x.L L6 L11 (.pointer (some ⟨V12.heap.size, 0, none⟩)) W9) := BMid.b G13.out g9 HB.out.2.1 IX.out IY.out (fun y hy => ⟨(NX.out y hy).1, (NX.out y hy).2, K7.out y hy⟩) (fun y hy => ⟨(NY.out y hy).1, (NY.out y hy).2, K13.out y hy⟩) hb9
                have G9 : Hid (W1.grownBy W9 none) := grown_new G13.out g9 HB.out.2.1
                have f0 := fz 0
                have f1 := fz 1
                have f2 := fz 2
                have f3 := fz 3
                clear fz hW9 g9 hb9
                go_simp
                rw [← HW9.out]
                refine hK.out _ _ (S1.out.kept G9.out) (fun hHeld => ?_)
                clear hK K'
                try simp only [Act.put, List.getElem_toArray, List.getElem_cons_succ, List.getElem_cons_zero, List.setIfInBounds_toArray, List.set_cons_zero, List.set_cons_succ]
                refine wpAnyH_done (by kernel_rfl) ?_ _
                go_wp2_with fail
                go_meet
                case rel => exact MB.out
              exact AllReadyH.nil
            exact AllReadyH.nil
          exact AllReadyH.nil
        refine AllReadyH.cons (o := _) rfl (fun K' hK => ?_) ?_
        · go_simp
          obtain ⟨V15, hV⟩ : ∃ W, W = V7.alloc (wgO 0 none 0 0 none 0 0 none 0 0) := ⟨_, rfl⟩
          rw [← hV]
          have gV : Hid (V7.grownBy V15 none) := by show World.grownBy _ _ _; rw [hV]; exact grown_alloc _ _
          have G15 : Hid (W1.grownBy V15 none) := grown_trans G7.out gV.out
          have K7 : Hid (∀ y, ax = some y → y.block ≠ V7.heap.size) := fun y hy => by have h1 := (NX.out y hy).2; omega
          have IX : Hid (Ints V15 ax L6) := IX.out.grown gV.out
          have NX : Hid (∀ y, ax = some y → W1.heap.size ≤ y.block ∧ y.block < V15.heap.size) := fun y hy => ⟨(NX.out y hy).1, Nat.lt_of_lt_of_le (NX.out y hy).2 gV.out.size⟩
          have HB : Hid (V15.heap[V7.heap.size]? = some (.cells #[.int .i64 0, .slice none 0 0, .slice none 0 0, .slice none 0 0] 25) ∧ W1.heap.size ≤ V7.heap.size ∧ V7.heap.size < V15.heap.size) := ⟨by rw [hV]; exact heap_alloc_new _ _, G7.out.size, by rw [hV]; simp⟩
          clear hV gV
          refine hK.out _ _ (S1.out.kept G15.out) (fun hHeld => ?_)
          clear hK K'
          try simp only [Act.put, List.getElem_toArray, List.getElem_cons_succ, List.getElem_cons_zero, List.setIfInBounds_toArray, List.set_cons_zero, List.set_cons_succ]
          refine wpAnyH_ready (rs := [12]) (by kernel_rfl) (by simp) ?_
          refine AllReadyH.cons (o := _) rfl (fun K' hK => ?_) ?_
          · go_simp
            obtain ⟨V12, hV⟩ : ∃ W, W = V15.alloc (.cells #[.slice a3 an3 ac3, .slice b3 bn3 bc3] 22) := ⟨_, rfl⟩
            rw [← hV]
            have gV : Hid (V15.grownBy V12 none) := by show World.grownBy _ _ _; rw [hV]; exact grown_alloc _ _
            have G12 : Hid (W1.grownBy V12 none) := grown_trans G15.out gV.out
            have C12 : Hid (C2 V12 V15.heap.size (.slice a3 an3 ac3) (.slice b3 bn3 bc3)) := by show C2 _ _ _ _; rw [hV]; exact c2_new _ _ _ _
            have IX : Hid (Ints V12 ax L6) := IX.out.grown gV.out
            have NX : Hid (∀ y, ax = some y → W1.heap.size ≤ y.block ∧ y.block < V12.heap.size) := fun y hy => ⟨(NX.out y hy).1, Nat.lt_of_lt_of_le (NX.out y hy).2 gV.out.size⟩
            have HB : Hid (V12.heap[V7.heap.size]? = some (.cells #[.int .i64 0, .slice none 0 0, .slice none 0 0, .slice none 0 0] 25) ∧ W1.heap.size ≤ V7.heap.size ∧ V7.heap.size < V12.heap.size) := ⟨(gV.out.block _ HB.out.2.2 (by simp)).trans HB.out.1, HB.out.2.1, Nat.lt_of_lt_of_le HB.out.2.2 gV.out.size⟩
            clear hV gV
            refine hK.out _ _ (S1.out.kept G12.out) (fun hHeld => ?_)
            clear hK K'
            try simp only [Act.put, List.getElem_toArray, List.getElem_cons_succ, List.getElem_cons_zero, List.setIfInBounds_toArray, List.set_cons_zero, List.set_cons_succ]
            refine wpAnyH_ready (rs := [13]) (by kernel_rfl) (by simp) ?_
            refine AllReadyH.cons (o := _) rfl (fun K' hK => ?_) ?_
            · go_simp
              have HBS : Hid (V7.heap.size < V12.heap.size) := HB.out.2.2
              refine (CTB.out _ _ G12.out C12.out).mono ?_
              rintro E V13 ⟨ay, ky, rfl, hix, hgx, hnx, hcx⟩
              have gV : Hid (V12.grownBy V13 none) := hgx
              have G13 : Hid (W1.grownBy V13 none) := grown_trans G12.out hgx
              have IX : Hid (Ints V13 ax L6) := IX.out.grown gV.out
              have NX : Hid (∀ y, ax = some y → W1.heap.size ≤ y.block ∧ y.block < V13.heap.size) := fun y hy => ⟨(NX.out y hy).1, Nat.lt_of_lt_of_le (NX.out y hy).2 gV.out.size⟩
              have HB : Hid (V13.heap[V7.heap.size]? = some (.cells #[.int .i64 0, .slice none 0 0, .slice none 0 0, .slice none 0 0] 25) ∧ W1.heap.size ≤ V7.heap.size ∧ V7.heap.size < V13.heap.size) := ⟨(gV.out.block _ HB.out.2.2 (by simp)).trans HB.out.1, HB.out.2.1, Nat.lt_of_lt_of_le HB.out.2.2 gV.out.size⟩
              have IY : Hid (Ints V13 ay L11) := hix
              have NY : Hid (∀ y, ay = some y → W1.heap.size ≤ y.block ∧ y.block < V13.heap.size) := fun y hy => ⟨Nat.le_trans G12.out.size (hnx y hy).1, (hnx y hy).2⟩
              have K13 : Hid (∀ y, ay = some y → y.block ≠ V7.heap.size) := fun y hy => by have h1 := (hnx y hy).1; have h2 := HBS.out; omega
              clear hix hgx hnx hcx gV
              go_wp2_with fail
              refine hK.out _ _ (S1.out.kept G13.out) (fun hHeld => ?_)
              clear hK K'
              try simp only [Act.put, List.getElem_toArray, List.getElem_cons_succ, List.getElem_cons_zero, List.setIfInBounds_toArray, List.set_cons_zero, List.set_cons_succ]
              refine wpAnyH_take (i := 14) (v := ?_) rfl (by kernel_rfl) (by kernel_rfl) (by kernel_rfl) (fun _ _ _ h => h) (Or.inl ⟨by rfl, ?_⟩) (by assumption) ?_
              rotate_left
              · intro W hSw
                obtain ⟨q0, q1, q2, q3, q4⟩ := hSw
                go_simp
                with_reducible rfl
              try simp only [Act.put, List.getElem_toArray, List.getElem_cons_succ, List.getElem_cons_zero, List.setIfInBounds_toArray, List.set_cons_zero, List.set_cons_succ]
              refine wpAnyH_ready (rs := [16]) (by kernel_rfl) (by simp) ?_
              refine AllReadyH.cons (o := _) rfl (fun K' hK => ?_) ?_
              · obtain ⟨⟨p0, p1, p2, p3⟩, fz, W9, hW9, g9, hb9⟩ := four_store HB.out.1 (.int .i64 x.L) (.slice ax L6.length kx) (.slice none 0 0) (.slice ay L11.length ky)
                have HW9 : Hid (W9 = _) := hW9
                have MB : Hid (BMid W1 x.L L6 L11 (.pointer (some ⟨V7.heap.size, 0, none⟩)) W9) := BMid.b G13.out g9 HB.out.2.1 IX.out IY.out (fun y hy => ⟨(NX.out y hy).1, (NX.out y hy).2, K7.out y hy⟩) (fun y hy => ⟨(NY.out y hy).1, (NY.out y hy).2, K13.out y hy⟩) hb9
                have G9 : Hid (W1.grownBy W9 none) := grown_new G13.out g9 HB.out.2.1
                have f0 := fz 0
                have f1 := fz 1
                have f2 := fz 2
                have f3 := fz 3
                clear fz hW9 g9 hb9
                go_simp
                rw [← HW9.out]
                refine hK.out _ _ (S1.out.kept G9.out) (fun hHeld => ?_)
                clear hK K'
                try simp only [Act.put, List.getElem_toArray, List.getElem_cons_succ, List.getElem_cons_zero, List.setIfInBounds_toArray, List.set_cons_zero, List.set_cons_succ]
                refine wpAnyH_done (by kernel_rfl) ?_ _
                go_wp2_with fail
                go_meet
                case rel => exact MB.out
              exact AllReadyH.nil
            exact AllReadyH.nil
          exact AllReadyH.nil
        exact AllReadyH.nil
      refine AllReadyH.cons (o := _) rfl (fun K' hK => ?_) ?_
      · go_simp
        obtain ⟨V12, hV⟩ : ∃ W, W = V6.alloc (.cells #[.slice a3 an3 ac3, .slice b3 bn3 bc3] 22) := ⟨_, rfl⟩
        rw [← hV]
        have gV : Hid (V6.grownBy V12 none) := by show World.grownBy _ _ _; rw [hV]; exact grown_alloc _ _
        have G12 : Hid (W1.grownBy V12 none) := grown_trans G6.out gV.out
        have C12 : Hid (C2 V12 V6.heap.size (.slice a3 an3 ac3) (.slice b3 bn3 bc3)) := by show C2 _ _ _ _; rw [hV]; exact c2_new _ _ _ _
        have C6 : Hid (C2 V12 Wd.heap.size (.slice a1 an1 ac1) (.slice b1 bn1 bc1)) := C6.out.kept gV.out
        clear hV gV
        refine hK.out _ _ (S1.out.kept G12.out) (fun hHeld => ?_)
        clear hK K'
        try simp only [Act.put, List.getElem_toArray, List.getElem_cons_succ, List.getElem_cons_zero, List.setIfInBounds_toArray, List.set_cons_zero, List.set_cons_succ]
        refine wpAnyH_ready (rs := [7, 15]) (by kernel_rfl) (by simp) ?_
        refine AllReadyH.cons (o := _) rfl (fun K' hK => ?_) ?_
        · go_simp
          refine (CTA.out _ _ G12.out C6.out).mono ?_
          rintro E V7 ⟨ax, kx, rfl, hix, hgx, hnx, hcx⟩
          have gV : Hid (V12.grownBy V7 none) := hgx
          have G7 : Hid (W1.grownBy V7 none) := grown_trans G12.out hgx
          have C12 : Hid (C2 V7 V6.heap.size (.slice a3 an3 ac3) (.slice b3 bn3 bc3)) := C12.out.kept gV.out
          have IX : Hid (Ints V7 ax L6) := hix
          have NX : Hid (∀ y, ax = some y → W1.heap.size ≤ y.block ∧ y.block < V7.heap.size) := fun y hy => ⟨Nat.le_trans G12.out.size (hnx y hy).1, (hnx y hy).2⟩
          clear hix hgx hnx hcx gV
          go_wp2_with fail
          refine hK.out _ _ (S1.out.kept G7.out) (fun hHeld => ?_)
          clear hK K'
          try simp only [Act.put, List.getElem_toArray, List.getElem_cons_succ, List.getElem_cons_zero, List.setIfInBounds_toArray, List.set_cons_zero, List.set_cons_succ]
          refine wpAnyH_ready (rs := [13, 15]) (by kernel_rfl) (by simp) ?_
          refine AllReadyH.cons (o := _) rfl (fun K' hK => ?_) ?_
          · go_simp
            refine (CTB.out _ _ G7.out C12.out).mono ?_
            rintro E V13 ⟨ay, ky, rfl, hix, hgx, hnx, hcx⟩
            have gV : Hid (V7.grownBy V13 none) := hgx
            have G13 : Hid (W1.grownBy V13 none) := grown_trans G7.out hgx
            have IX : Hid (Ints V13 ax L6) := IX.out.grown gV.out
            have NX : Hid (∀ y, ax = some y → W1.heap.size ≤ y.block ∧ y.block < V13.heap.size) := fun y hy => ⟨(NX.out y hy).1, Nat.lt_of_lt_of_le (NX.out y hy).2 gV.out.size⟩
            have IY : Hid (Ints V13 ay L11) := hix
            have NY : Hid (∀ y, ay = some y → W1.heap.size ≤ y.block ∧ y.block < V13.heap.size) := fun y hy => ⟨Nat.le_trans G7.out.size (hnx y hy).1, (hnx y hy).2⟩
            clear hix hgx hnx hcx gV
            go_wp2_with fail
            refine hK.out _ _ (S1.out.kept G13.out) (fun hHeld => ?_)
            clear hK K'
            try simp only [Act.put, List.getElem_toArray, List.getElem_cons_succ, List.getElem_cons_zero, List.setIfInBounds_toArray, List.set_cons_zero, List.set_cons_succ]
            refine wpAnyH_take (i := 14) (v := ?_) rfl (by kernel_rfl) (by kernel_rfl) (by kernel_rfl) (fun _ _ _ h => h) (Or.inl ⟨by rfl, ?_⟩) (by assumption) ?_
            rotate_left
            · intro W hSw
              obtain ⟨q0, q1, q2, q3, q4⟩ := hSw
              go_simp
              with_reducible rfl
            try simp only [Act.put, List.getElem_toArray, List.getElem_cons_succ, List.getElem_cons_zero, List.setIfInBounds_toArray, List.set_cons_zero, List.set_cons_succ]
            refine wpAnyH_ready (rs := [15]) (by kernel_rfl) (by simp) ?_
            refine AllReadyH.cons (o := _) rfl (fun K' hK => ?_) ?_
            · go_simp
              obtain ⟨V15, hV⟩ : ∃ W, W = V13.alloc (wgO 0 none 0 0 none 0 0 none 0 0) := ⟨_, rfl⟩
              rw [← hV]
              have gV : Hid (V13.grownBy V15 none) := by show World.grownBy _ _ _; rw [hV]; exact grown_alloc _ _
              have G15 : Hid (W1.grownBy V15 none) := grown_trans G13.out gV.out
              have K7 : Hid (∀ y, ax = some y → y.block ≠ V13.heap.size) := fun y hy => by have h1 := (NX.out y hy).2; omega
              have K13 : Hid (∀ y, ay = some y → y.block ≠ V13.heap.size) := fun y hy => by have h1 := (NY.out y hy).2; omega
              have IX : Hid (Ints V15 ax L6) := IX.out.grown gV.out
              have NX : Hid (∀ y, ax = some y → W1.heap.size ≤ y.block ∧ y.block < V15.heap.size) := fun y hy => ⟨(NX.out y hy).1, Nat.lt_of_lt_of_le (NX.out y hy).2 gV.out.size⟩
              have IY : Hid (Ints V15 ay L11) := IY.out.grown gV.out
              have NY : Hid (∀ y, ay = some y → W1.heap.size ≤ y.block ∧ y.block < V15.heap.size) := fun y hy => ⟨(NY.out y hy).1, Nat.lt_of_lt_of_le (NY.out y hy).2 gV.out.size⟩
              have HB : Hid (V15.heap[V13.heap.size]? = some (.cells #[.int .i64 0, .slice none 0 0, .slice none 0 0, .slice none 0 0] 25) ∧ W1.heap.size ≤ V13.heap.size ∧ V13.heap.size < V15.heap.size) := ⟨by rw [hV]; exact heap_alloc_new _ _, G13.out.size, by rw [hV]; simp⟩
              clear hV gV
              refine hK.out _ _ (S1.out.kept G15.out) (fun hHeld => ?_)
              clear hK K'
              try simp only [Act.put, List.getElem_toArray, List.getElem_cons_succ, List.getElem_cons_zero, List.setIfInBounds_toArray, List.set_cons_zero, List.set_cons_succ]
              refine wpAnyH_ready (rs := [16]) (by kernel_rfl) (by simp) ?_
              refine AllReadyH.cons (o := _) rfl (fun K' hK => ?_) ?_
              · obtain ⟨⟨p0, p1, p2, p3⟩, fz, W9, hW9, g9, hb9⟩ := four_store HB.out.1 (.int .i64 x.L) (.slice ax L6.length kx) (.slice none 0 0) (.slice ay L11.length ky)
                have HW9 : Hid (W9 = _) := hW9
                have MB : Hid (BMid W1 x.L L6 L11 (.pointer (some ⟨V13.heap.size, 0, none⟩)) W9) := BMid.b G15.out g9 HB.out.2.1 IX.out IY.out (fun y hy => ⟨(NX.out y hy).1, (NX.out y hy).2, K7.out y hy⟩) (fun y hy => ⟨(NY.out y hy).1, (NY.out y hy).2, K13.out y hy⟩) hb9
                have G9 : Hid (W1.grownBy W9 none) := grown_new G15.out g9 HB.out.2.1
                have f0 := fz 0
                have f1 := fz 1
                have f2 := fz 2
                have f3 := fz 3
                clear fz hW9 g9 hb9
                go_simp
                rw [← HW9.out]
                refine hK.out _ _ (S1.out.kept G9.out) (fun hHeld => ?_)
                clear hK K'
                try simp only [Act.put, List.getElem_toArray, List.getElem_cons_succ, List.getElem_cons_zero, List.setIfInBounds_toArray, List.set_cons_zero, List.set_cons_succ]
                refine wpAnyH_done (by kernel_rfl) ?_ _
                go_wp2_with fail
                go_meet
                case rel => exact MB.out
              exact AllReadyH.nil
            exact AllReadyH.nil
          refine AllReadyH.cons (o := _) rfl (fun K' hK => ?_) ?_
          · go_simp
            obtain ⟨V15, hV⟩ : ∃ W, W = V7.alloc (wgO 0 none 0 0 none 0 0 none 0 0) := ⟨_, rfl⟩
            rw [← hV]
            have gV : Hid (V7.grownBy V15 none) := by show World.grownBy _ _ _; rw [hV]; exact grown_alloc _ _
            have G15 : Hid (W1.grownBy V15 none) := grown_trans G7.out gV.out
            have K7 : Hid (∀ y, ax = some y → y.block ≠ V7.heap.size) := fun y hy => by have h1 := (NX.out y hy).2; omega
            have C12 : Hid (C2 V15 V6.heap.size (.slice a3 an3 ac3) (.slice b3 bn3 bc3)) := C12.out.kept gV.out
            have IX : Hid (Ints V15 ax L6) := IX.out.grown gV.out
            have NX : Hid (∀ y, ax = some y → W1.heap.size ≤ y.block ∧ y.block < V15.heap.size) := fun y hy => ⟨(NX.out y hy).1, Nat.lt_of_lt_of_le (NX.out y hy).2 gV.out.size⟩
            have HB : Hid (V15.heap[V7.heap.size]? = some (.cells #[.int .i64 0, .slice none 0 0, .slice none 0 0, .slice none 0 0] 25) ∧ W1.heap.size ≤ V7.heap.size ∧ V7.heap.size < V15.heap.size) := ⟨by rw [hV]; exact heap_alloc_new _ _, G7.out.size, by rw [hV]; simp⟩
            clear hV gV
            refine hK.out _ _ (S1.out.kept G15.out) (fun hHeld => ?_)
            clear hK K'
            try simp only [Act.put, List.getElem_toArray, List.getElem_cons_succ, List.getElem_cons_zero, List.setIfInBounds_toArray, List.set_cons_zero, List.set_cons_succ]
            refine wpAnyH_ready (rs := [13]) (by kernel_rfl) (by simp) ?_
            refine AllReadyH.cons (o := _) rfl (fun K' hK => ?_) ?_
            · go_simp
              have HBS : Hid (V7.heap.size < V15.heap.size) := HB.out.2.2
              refine (CTB.out _ _ G15.out C12.out).mono ?_
              rintro E V13 ⟨ay, ky, rfl, hix, hgx, hnx, hcx⟩
              have gV : Hid (V15.grownBy V13 none) := hgx
              have G13 : Hid (W1.grownBy V13 none) := grown_trans G15.out hgx
              have IX : Hid (Ints V13 ax L6) := IX.out.grown gV.out
              have NX : Hid (∀ y, ax = some y → W1.heap.size ≤ y.block ∧ y.block < V13.heap.size) := fun y hy => ⟨(NX.out y hy).1, Nat.lt_of_lt_of_le (NX.out y hy).2 gV.out.size⟩
              have HB : Hid (V13.heap[V7.heap.size]? = some (.cells #[.int .i64 0, .slice none 0 0, .slice none 0 0, .slice none 0 0] 25) ∧ W1.heap.size ≤ V7.heap.size ∧ V7.heap.size < V13.heap.size) := ⟨(gV.out.block _ HB.out.2.2 (by simp)).trans HB.out.1, HB.out.2.1, Nat.lt_of_lt_of_le HB.out.2.2 gV.out.size⟩
              have IY : Hid (Ints V13 ay L11) := hix
              have NY : Hid (∀ y, ay = some y → W1.heap.size ≤ y.block ∧ y.block < V13.heap.size) := fun y hy => ⟨Nat.le_trans G15.out.size (hnx y hy).1, (hnx y hy).2⟩
              have K13 : Hid (∀ y, ay = some y → y.block ≠ V7.heap.size) := fun y hy => by have h1 := (hnx y hy).1; have h2 := HBS.out; omega
              clear hix hgx hnx hcx gV
              go_wp2_with fail
              refine hK.out _ _ (S1.out.kept G13.out) (fun hHeld => ?_)
              clear hK K'
              try simp only [Act.put, List.getElem_toArray, List.getElem_cons_succ, List.getElem_cons_zero, List.setIfInBounds_toArray, List.set_cons_zero, List.set_cons_succ]
              refine wpAnyH_take (i := 14) (v := ?_) rfl (by kernel_rfl) (by kernel_rfl) (by kernel_rfl) (fun _ _ _ h => h) (Or.inl ⟨by rfl, ?_⟩) (by assumption) ?_
              rotate_left
              · intro W hSw
                obtain ⟨q0, q1, q2, q3, q4⟩ := hSw
                go_simp
                with_reducible rfl
              try simp only [Act.put, List.getElem_toArray, List.getElem_cons_succ, List.getElem_cons_zero, List.setIfInBounds_toArray, List.set_cons_zero, List.set_cons_succ]
              refine wpAnyH_ready (rs := [16]) (by kernel_rfl) (by simp) ?_
              refine AllReadyH.cons (o := _) rfl (fun K' hK => ?_) ?_
              · obtain ⟨⟨p0, p1, p2, p3⟩, fz, W9, hW9, g9, hb9⟩ := four_store HB.out.1 (.int .i64 x.L) (.slice ax L6.length kx) (.slice none 0 0) (.slice ay L11.length ky)
                have HW9 : Hid (W9 = _) := hW9
                have MB : Hid (BMid W1 x.L L6 L11 (.pointer (some ⟨V7.heap.size, 0, none⟩)) W9) := BMid.b G13.out g9 HB.out.2.1 IX.out IY.out (fun y hy => ⟨(NX.out y hy).1, (NX.out y hy).2, K7.out y hy⟩) (fun y hy => ⟨(NY.out y hy).1, (NY.out y hy).2, K13.out y hy⟩) hb9
                have G9 : Hid (W1.grownBy W9 none) := grown_new G13.out g9 HB.out.2.1
                have f0 := fz 0
                have f1 := fz 1
                have f2 := fz 2
                have f3 := fz 3
                clear fz hW9 g9 hb9
                go_simp
                rw [← HW9.out]
                refine hK.out _ _ (S1.out.kept G9.out) (fun hHeld => ?_)
                clear hK K'
                try simp only [Act.put, List.getElem_toArray, List.getElem_cons_succ, List.getElem_cons_zero, List.setIfInBounds_toArray, List.set_cons_zero, List.set_cons_succ]
                refine wpAnyH_done (by kernel_rfl) ?_ _
                go_wp2_with fail
                go_meet
                case rel => exact MB.out
              exact AllReadyH.nil
            exact AllReadyH.nil
          exact AllReadyH.nil
        refine AllReadyH.cons (o := _) rfl (fun K' hK => ?_) ?_
        · go_simp
          obtain ⟨V15, hV⟩ : ∃ W, W = V12.alloc (wgO 0 none 0 0 none 0 0 none 0 0) := ⟨_, rfl⟩
          rw [← hV]
          have gV : Hid (V12.grownBy V15 none) := by show World.grownBy _ _ _; rw [hV]; exact grown_alloc _ _
          have G15 : Hid (W1.grownBy V15 none) := grown_trans G12.out gV.out
          have C6 : Hid (C2 V15 Wd.heap.size (.slice a1 an1 ac1) (.slice b1 bn1 bc1)) := C6.out.kept gV.out
          have C12 : Hid (C2 V15 V6.heap.size (.slice a3 an3 ac3) (.slice b3 bn3 bc3)) := C12.out.kept gV.out
          have HB : Hid (V15.heap[V12.heap.size]? = some (.cells #[.int .i64 0, .slice none 0 0, .slice none 0 0, .slice none 0 0] 25) ∧ W1.heap.size ≤ V12.heap.size ∧ V12.heap.size < V15.heap.size) := ⟨by rw [hV]; exact heap_alloc_new _ _, G12.out.size, by rw [hV]; simp⟩
          clear hV gV
          refine hK.out _ _ (S1.out.kept G15.out) (fun hHeld => ?_)
          clear hK K'
          try simp only [Act.put, List.getElem_toArray, List.getElem_cons_succ, List.getElem_cons_zero, List.setIfInBounds_toArray, List.set_cons_zero, List.set_cons_succ]
          refine wpAnyH_ready (rs := [7]) (by kernel_rfl) (by simp) ?_
          refine AllReadyH.cons (o := _) rfl (fun K' hK => ?_) ?_
          · go_simp
            have HBS : Hid (V12.heap.size < V15.heap.size) := HB.out.2.2
            refine (CTA.out _ _ G15.out C6.out).mono ?_
            rintro E V7 ⟨ax, kx, rfl, hix, hgx, hnx, hcx⟩
            have gV : Hid (V15.grownBy V7 none) := hgx
            have G7 : Hid (W1.grownBy V7 none) := grown_trans G15.out hgx
            have C12 : Hid (C2 V7 V6.heap.size (.slice a3 an3 ac3) (.slice b3 bn3 bc3)) := C12.out.kept gV.out
            have HB : Hid (V7.heap[V12.heap.size]? = some (.cells #[.int .i64 0, .slice none 0 0, .slice none 0 0, .slice none 0 0] 25) ∧ W1.heap.size ≤ V12.heap.size ∧ V12.heap.size < V7.heap.size) := ⟨(gV.out.block _ HB.out.2.2 (by simp)).trans HB.out.1, HB.out.2.1, Nat.lt_of_lt_of_le HB.out.2.2 gV.out.size⟩
            have IX : Hid (Ints V7 ax L6) := hix
            have NX : Hid (∀ y, ax = some y → W1.heap.size ≤ y.block ∧ y.block < V7.heap.size) := fun y hy => ⟨Nat.le_trans G15.out.size (hnx y hy).1, (hnx y hy).2⟩
            have K7 : Hid (∀ y, ax = some y → y.block ≠ V12.heap.size) := fun y hy => by have h1 := (hnx y hy).1; have h2 := HBS.out; omega
            clear hix hgx hnx hcx gV
            go_wp2_with fail
            refine hK.out _ _ (S1.out.kept G7.out) (fun hHeld => ?_)
            clear hK K'
            try simp only [Act.put, List.getElem_toArray, List.getElem_cons_succ, List.getElem_cons_zero, List.setIfInBounds_toArray, List.set_cons_zero, List.set_cons_succ]
            refine wpAnyH_ready (rs := [13]) (by kernel_rfl) (by simp) ?_
            refine AllReadyH.cons (o := _) rfl (fun K' hK => ?_) ?_
            · go_simp
              have HBS : Hid (V12.heap.size < V7.heap.size) := HB.out.2.2
              refine (CTB.out _ _ G7.out C12.out).mono ?_
              rintro E V13 ⟨ay, ky, rfl, hix, hgx, hnx, hcx⟩
              have gV : Hid (V7.grownBy V13 none) := hgx
              have G13 : Hid (W1.grownBy V13 none) := grown_trans G7.out hgx
              have IX : Hid (Ints V13 ax L6) := IX.out.grown gV.out
              have NX : Hid (∀ y, ax = some y → W1.heap.size ≤ y.block ∧ y.block < V13.heap.size) := fun y hy => ⟨(NX.out y hy).1, Nat.lt_of_lt_of_le (NX.out y hy).2 gV.out.size⟩
              have HB : Hid (V13.heap[V12.heap.size]? = some (.cells #[.int .i64 0, .slice none 0 0, .slice none 0 0, .slice none 0 0] 25) ∧ W1.heap.size ≤ V12.heap.size ∧ V12.heap.size < V13.heap.size) := ⟨(gV.out.block _ HB.out.2.2 (by simp)).trans HB.out.1, HB.out.2.1, Nat.lt_of_lt_of_le HB.out.2.2 gV.out.size⟩
              have IY : Hid (Ints V13 ay L11) := hix
              have NY : Hid (∀ y, ay = some y → W1.heap.size ≤ y.block ∧ y.block < V13.heap.size) := fun y hy => ⟨Nat.le_trans G7.out.size (hnx y hy).1, (hnx y hy).2⟩
              have K13 : Hid (∀ y, ay = some y → y.block ≠ V12.heap.size) := fun y hy => by have h1 := (hnx y hy).1; have h2 := HBS.out; omega
              clear hix hgx hnx hcx gV
              go_wp2_with fail
              refine hK.out _ _ (S1.out.kept G13.out) (fun hHeld => ?_)
              clear hK K'
              try simp only [Act.put, List.getElem_toArray, List.getElem_cons_succ, List.getElem_cons_zero, List.setIfInBounds_toArray, List.set_cons_zero, List.set_cons_succ]
              refine wpAnyH_take (i := 14) (v := ?_) rfl (by kernel_rfl) (by kernel_rfl) (by kernel_rfl) (fun _ _ _ h => h) (Or.inl ⟨by rfl, ?_⟩) (by assumption) ?_
              rotate_left
              · intro W hSw
                obtain ⟨q0, q1, q2, q3, q4⟩ := hSw
                go_simp
                with_reducible rfl
              try simp only [Act.put, List.getElem_toArray, List.getElem_cons_succ, List.getElem_cons_zero, List.setIfInBounds_toArray, List.set_cons_zero, List.set_cons_succ]
              refine wpAnyH_ready (rs := [16]) (by kernel_rfl) (by simp) ?_
              refine AllReadyH.cons (o := _) rfl (fun K' hK => ?_) ?_
              · obtain ⟨⟨p0, p1, p2, p3⟩, fz, W9, hW9, g9, hb9⟩ := four_store HB.out.1 (.int .i64 x.L) (.slice ax L6.length kx) (.slice none 0 0) (.slice ay L11.length ky)
                have HW9 : Hid (W9 = _) := hW9
                have MB : Hid (BMid W1 x.L L6 L11 (.pointer (some ⟨V12.heap.size, 0, none⟩)) W9) := BMid.b G13.out g9 HB.out.2.1 IX.out IY.out (fun y hy => ⟨(NX.out y hy).1, (NX.out y hy).2, K7.out y hy⟩) (fun y hy => ⟨(NY.out y hy).1, (NY.out y hy).2, K13.out y hy⟩) hb9
                have G9 : Hid (W1.grownBy W9 none) := grown_new G13.out g9 HB.out.2.1
                have f0 := fz 0
                have f1 := fz 1
                have f2 := fz 2
                have f3 := fz 3
                clear fz hW9 g9 hb9
                go_simp
                rw [← HW9.out]
                refine hK.out _ _ (S1.out.kept G9.out) (fun hHeld => ?_)
                clear hK K'
                try simp only [Act.put, List.getElem_toArray, List.getElem_cons_succ, List.getElem_cons_zero, List.setIfInBounds_toArray, List.set_cons_zero, List.set_cons_succ]
                refine wpAnyH_done (by kernel_rfl) ?_ _
                go_wp2_with fail
                go_meet
                case rel => exact MB.out
              exact AllReadyH.nil
            exact AllReadyH.nil
          exact AllReadyH.nil
        exact AllReadyH.nil
      refine AllReadyH.cons (o := _) rfl (fun K' hK => ?_) ?_
      · go_simp
        obtain ⟨V15, hV⟩ : ∃ W, W = V6.alloc (wgO 0 none 0 0 none 0 0 none 0 0) := ⟨_, rfl⟩
        rw [← hV]
        have gV : Hid (V6.grownBy V15 none) := by show World.grownBy _ _ _; rw [hV]; exact grown_alloc _ _
        have G15 : Hid (W1.grownBy V15 none) := grown_trans G6.out gV.out
        have C6 : Hid (C2 V15 Wd.heap.size (.slice a1 an1 ac1) (.slice b1 bn1 bc1)) := C6.out.kept gV.out
        have HB : Hid (V15.heap[V6.heap.size]? = some (.cells #[.int .i64 0, .slice none 0 0, .slice none 0 0, .slice none 0 0] 25) ∧ W1.heap.size ≤ V6.heap.size ∧ V6.heap.size < V15.heap.size) := ⟨by rw [hV]; exact heap_alloc_new _ _, G6.out.size, by rw [hV]; simp⟩
        clear hV gV
        refine hK.out _ _ (S1.out.kept G15.out) (fun hHeld => ?_)
        clear hK K'
        try simp only [Act.put, List.getElem_toArray, List.getElem_cons_succ, List.getElem_cons_zero, List.setIfInBounds_toArray, List.set_cons_zero, List.set_cons_succ]
        refine wpAnyH_ready (rs := [7, 12]) (by kernel_rfl) (by simp) ?_
        refine AllReadyH.cons (o := _) rfl (fun K' hK => ?_) ?_
        · go_simp
          have HBS : Hid (V6.heap.size < V15.heap.size) := HB.out.2.2
          refine (CTA.out _ _ G15.out C6.out).mono ?_
          rintro E V7 ⟨ax, kx, rfl, hix, hgx, hnx, hcx⟩
          have gV : Hid (V15.grownBy V7 none) := hgx
          have G7 : Hid (W1.grownBy V7 none) := grown_trans G15.out hgx
          have HB : Hid (V7.heap[V6.heap.size]? = some (.cells #[.int .i64 0, .slice none 0 0, .slice none 0 0, .slice none 0 0] 25) ∧ W1.heap.size ≤ V6.heap.size ∧ V6.heap.size < V7.heap.size) := ⟨(gV.out.block _ HB.out.2.2 (by simp)).trans HB.out.1, HB.out.2.1, Nat.lt_of_lt_of_le HB.out.2.2 gV.out.size⟩
          have IX : Hid (Ints V7 ax L6) := hix
          have NX : Hid (∀ y, ax = some y → W1.heap.size ≤ y.block ∧ y.block < V7.heap.size) := fun y hy => ⟨Nat.le_trans G15.out.size (hnx y hy).1, (hnx y hy).2⟩
          have K7 : Hid (∀ y, ax = some y → y.block ≠ V6.heap.size) := fun y hy => by have h1 := (hnx y hy).1; have h2 := HBS.out; omega
          clear hix hgx hnx hcx gV
          go_wp2_with fail
          refine hK.out _ _ (S1.out.kept G7.out) (fun hHeld => ?_)
          clear hK K'
          try simp only [Act.put, List.getElem_toArray, List.getElem_cons_succ, List.getElem_cons_zero, List.setIfInBounds_toArray, List.set_cons_zero, List.set_cons_succ]
          refine wpAnyH_ready (rs := [12]) (by kernel_rfl) (by simp) ?_
          refine AllReadyH.cons (o := _) rfl (fun K' hK => ?_) ?_
          · go_simp
            obtain ⟨V12, hV⟩ : ∃ W, W = V7.alloc (.cells #[.slice a3 an3 ac3, .slice b3 bn3 bc3] 22) := ⟨_, rfl⟩
            rw [← hV]
            have gV : Hid (V7.grownBy V12 none) := by show World.grownBy _ _ _; rw [hV]; exact grown_alloc _ _
            have G12 : Hid (W1.grownBy V12 none) := grown_trans G7.out gV.out
            have C12 : Hid (C2 V12 V7.heap.size (.slice a3 an3 ac3) (.slice b3 bn3 bc3)) := by show C2 _ _ _ _; rw [hV]; exact c2_new _ _ _ _
            have IX : Hid (Ints V12 ax L6) := IX.out.grown gV.out
            have NX : Hid (∀ y, ax = some y → W1.heap.size ≤ y.block ∧ y.block < V12.heap.size) := fun y hy => ⟨(NX.out y hy).1, Nat.lt_of_lt_of_le (NX.out y hy).2 gV.out.size⟩
            have HB : Hid (V12.heap[V6.heap.size]? = some (.cells #[.int .i64 0, .slice none 0 0, .slice none 0 0, .slice none 0 0] 25) ∧ W1.heap.size ≤ V6.heap.size ∧ V6.heap.size < V12.heap.size) := ⟨(gV.out.block _ HB.out.2.2 (by simp)).trans HB.out.1, HB.out.2.1, Nat.lt_of_lt_of_le HB.out.2.2 gV.out.size⟩
            clear hV gV
            refine hK.out _ _ (S1.out.kept G12.out) (fun hHeld => ?_)
            clear hK K'
            try simp only [Act.put, List.getElem_toArray, List.getElem_cons_succ, List.getElem_cons_zero, List.setIfInBounds_toArray, List.set_cons_zero, List.set_cons_succ]
            refine wpAnyH_ready (rs := [13]) (by kernel_rfl) (by simp) ?_
            refine AllReadyH.cons (o := _) rfl (fun K' hK => ?_) ?_
            · go_simp
              have HBS : Hid (V6.heap.size < V12.heap.size) := HB.out.2.2
              refine (CTB.out _ _ G12.out C12.out).mono ?_
              rintro E V13 ⟨ay, ky, rfl, hix, hgx, hnx, hcx⟩
              have gV : Hid (V12.grownBy V13 none) := hgx
              have G13 : Hid (W1.grownBy V13 none) := grown_trans G12.out hgx
              have IX : Hid (Ints V13 ax L6) := IX.out.grown gV.out
              have NX : Hid (∀ y, ax = some y → W1.heap.size ≤ y.block ∧ y.block < V13.heap.size) := fun y hy => ⟨(NX.out y hy).1, Nat.lt_of_lt_of_le (NX.out y hy).2 gV.out.size⟩
              have HB : Hid (V13.heap[V6.heap.size]? = some (.cells #[.int .i64 0, .slice none 0 0, .slice none 0 0, .slice none 0 0] 25) ∧ W1.heap.size ≤ V6.heap.size ∧ V6.heap.size < V13.heap.size) := ⟨(gV.out.block _ HB.out.2.2 (by simp)).trans HB.out.1, HB.out.2.1, Nat.lt_of_lt_of_le HB.out.2.2 gV.out.size⟩
              have IY : Hid (Ints V13 ay L11) := hix
              have NY : Hid (∀ y, ay = some y → W1.heap.size ≤ y.block ∧ y.block < V13.heap.size) := fun y hy => ⟨Nat.le_trans G12.out.size (hnx y hy).1, (hnx y hy).2⟩
              have K13 : Hid (∀ y, ay = some y → y.block ≠ V6.heap.size) := fun y hy => by have h1 := (hnx y hy).1; have h2 := HBS.out; omega
              clear hix hgx hnx hcx gV
              go_wp2_with fail
              refine hK.out _ _ (S1.out.kept G13.out) (fun hHeld => ?_)
              clear hK K'
              try simp only [Act.put, List.getElem_toArray, List.getElem_cons_succ, List.getElem_cons_zero, List.setIfInBounds_toArray, List.set_cons_zero, List.set_cons_succ]
              refine wpAnyH_take (i := 14) (v := ?_) rfl (by kernel_rfl) (by kernel_rfl) (by kernel_rfl) (fun _ _ _ h => h) (Or.inl ⟨by rfl, ?_⟩) (by assumption) ?_
              rotate_left
              · intro W hSw
                obtain ⟨q0, q1, q2, q3, q4⟩ := hSw
                go_simp
                with_reducible rfl
              try simp only [Act.put, List.getElem_toArray, List.getElem_cons_succ, List.getElem_cons_zero, List.setIfInBounds_toArray, List.set_cons_zero, List.set_cons_succ]
              refine wpAnyH_ready (rs := [16]) (by kernel_rfl) (by simp) ?_
              refine AllReadyH.cons (o := _) rfl (fun K' hK => ?_) ?_
              · obtain ⟨⟨p0, p1, p2, p3⟩, fz, W9, hW9, g9, hb9⟩ := four_store HB.out.1 (.int .i64 x.L) (.slice ax L6.length kx) (.slice none 0 0) (.slice ay L11.length ky)
                have HW9 : Hid (W9 = _) := hW9
                have MB : Hid (BMid W1 x.L L6 L11 (.pointer (some ⟨V6.heap.size, 0, none⟩)) W9) := BMid.b G13.out g9 HB.out.2.1 IX.out IY.out (fun y hy => ⟨(NX.out y hy).1, (NX.out y hy).2, K7.out y hy⟩) (fun y hy => ⟨(NY.out y hy).1, (NY.out y hy).2, K13.out y hy⟩) hb9
                have G9 : Hid (W1.grownBy W9 none) := grown_new G13.out g9 HB.out.2.1
                have f0 := fz 0
                have f1 := fz 1
                have f2 := fz 2
                have f3 := fz 3
                clear fz hW9 g9 hb9
                go_simp
                rw [← HW9.out]
                refine hK.out _ _ (S1.out.kept G9.out) (fun hHeld => ?_)
                clear hK K'
                try simp only [Act.put, List.getElem_toArray, List.getElem_cons_succ, List.getElem_cons_zero, List.setIfInBounds_toArray, List.set_cons_zero, List.set_cons_succ]
                refine wpAnyH_done (by kernel_rfl) ?_ _
                go_wp2_with fail
                go_meet
                case rel => exact MB.out
              exact AllReadyH.nil
            exact AllReadyH.nil
          exact AllReadyH.nil
        refine AllReadyH.cons (o := _) rfl (fun K' hK => ?_) ?_
        · go_simp
          obtain ⟨V12, hV⟩ : ∃ W, W = V15.alloc (.cells #[.slice a3 an3 ac3, .slice b3 bn3 bc3] 22) := ⟨_, rfl⟩
          rw [← hV]
          have gV : Hid (V15.grownBy V12 none) := by show World.grownBy _ _ _; rw [hV]; exact grown_alloc _ _
          have G12 : Hid (W1.grownBy V12 none) := grown_trans G15.out gV.out
          have C12 : Hid (C2 V12 V15.heap.size (.slice a3 an3 ac3) (.slice b3 bn3 bc3)) := by show C2 _ _ _ _; rw [hV]; exact c2_new _ _ _ _
          have C6 : Hid (C2 V12 Wd.heap.size (.slice a1 an1 ac1) (.slice b1 bn1 bc1)) := C6.out.kept gV.out
          have HB : Hid (V12.heap[V6.heap.size]? = some (.cells #[.int .i64 0, .slice none 0 0, .slice none 0 0, .slice none 0 0] 25) ∧ W1.heap.size ≤ V6.heap.size ∧ V6.heap.size < V12.heap.size) := ⟨(gV.out.block _ HB.out.2.2 (by simp)).trans HB.out.1, HB.out.2.1, Nat.lt_of_lt_of_le HB.out.2.2 gV.out.size⟩
          clear hV gV
          refine hK.out _ _ (S1.out.kept G12.out) (fun hHeld => ?_)
          clear hK K'
          try simp only [Act.put, List.getElem_toArray, List.getElem_cons_succ, List.getElem_cons_zero, List.setIfInBounds_toArray, List.set_cons_zero, List.set_cons_succ]
          refine wpAnyH_ready (rs := [7]) (by kernel_rfl) (by simp) ?_
          refine AllReadyH.cons (o := _) rfl (fun K' hK => ?_) ?_
          · go_simp
            have HBS : Hid (V6.heap.size < V12.heap.size) := HB.out.2.2
            refine (CTA.out _ _ G12.out C6.out).mono ?_
            rintro E V7 ⟨ax, kx, rfl, hix, hgx, hnx, hcx⟩
            have gV : Hid (V12.grownBy V7 none) := hgx
            have G7 : Hid (W1.grownBy V7 none) := grown_trans G12.out hgx
            have C12 : Hid (C2 V7 V15.heap.size (.slice a3 an3 ac3) (.slice b3 bn3 bc3)) := C12.out.kept gV.out
            have HB : Hid (V7.heap[V6.heap.size]? = some (.cells #[.int .i64 0, .slice none 0 0, .slice none 0 0, .slice none 0 0] 25) ∧ W1.heap.size ≤ V6.heap.size ∧ V6.heap.size < V7.heap.size) := ⟨(gV.out.block _ HB.out.2.2 (by simp)).trans HB.out.1, HB.out.2.1, Nat.lt_of_lt_of_le HB.out.2.2 gV.out.size⟩
            have IX : Hid (Ints V7 ax L6) := hix
            have NX : Hid (∀ y, ax = some y → W1.heap.size ≤ y.block ∧ y.block < V7.heap.size) := fun y hy => ⟨Nat.le_trans G12.out.size (hnx y hy).1, (hnx y hy).2⟩
            have K7 : Hid (∀ y, ax = some y → y.block ≠ V6.heap.size) := fun y hy => by have h1 := (hnx y hy).1; have h2 := HBS.out; omega
            clear hix hgx hnx hcx gV
            go_wp2_with fail
            refine hK.out _ _ (S1.out.kept G7.out) (fun hHeld => ?_)
            clear hK K'
            try simp only [Act.put, List.getElem_toArray, List.getElem_cons_succ, List.getElem_cons_zero, List.setIfInBounds_toArray, List.set_cons_zero, List.set_cons_succ]
            refine wpAnyH_ready (rs := [13]) (by kernel_rfl) (by simp) ?_
            refine AllReadyH.cons (o := _) rfl (fun K' hK => ?_) ?_
            · go_simp
              have HBS : Hid (V6.heap.size < V7.heap.size) := HB.out.2.2
              refine (CTB.out _ _ G7.out C12.out).mono ?_
              rintro E V13 ⟨ay, ky, rfl, hix, hgx, hnx, hcx⟩
              have gV : Hid (V7.grownBy V13 none) := hgx
              have G13 : Hid (W1.grownBy V13 none) := grown_trans G7.out hgx
              have IX : Hid (Ints V13 ax L6) := IX.out.grown gV.out
              have NX : Hid (∀ y, ax = some y → W1.heap.size ≤ y.block ∧ y.block < V13.heap.size) := fun y hy => ⟨(NX.out y hy).1, Nat.lt_of_lt_of_le (NX.out y hy).2 gV.out.size⟩
              have HB : Hid (V13.heap[V6.heap.size]? = some (.cells #[.int .i64 0, .slice none 0 0, .slice none 0 0, .slice none 0 0] 25) ∧ W1.heap.size ≤ V6.heap.size ∧ V6.heap.size < V13.heap.size) := ⟨(gV.out.block _ HB.out.2.2 (by simp)).trans HB.out.1, HB.out.2.1, Nat.lt_of_lt_of_le HB.out.2.2 gV.out.size⟩
              have IY : Hid (Ints V13 ay L11) := hix
              have NY : Hid (∀ y, ay = some y → W1.heap.size ≤ y.block ∧ y.block < V13.heap.size) := fun y hy => ⟨Nat.le_trans G7.out.size (hnx y hy).1, (hnx y hy).2⟩
              have K13 : Hid (∀ y, ay = some y → y.block ≠ V6.heap.size) := fun y hy => by have h1 := (hnx y hy).1; have h2 := HBS.out; omega
              clear hix hgx hnx hcx gV
              go_wp2_with fail
              refine hK.out _ _ (S1.out.kept G13.out) (fun hHeld => ?_)
              clear hK K'
              try simp only [Act.put, List.getElem_toArray, List.getElem_cons_succ, List.getElem_cons_zero, List.setIfInBounds_toArray, List.set_cons_zero, List.set_cons_succ]
              refine wpAnyH_take (i := 14) (v := ?_) rfl (by kernel_rfl) (by kernel_rfl) (by kernel_rfl) (fun _ _ _ h => h) (Or.inl ⟨by rfl, ?_⟩) (by assumption) ?_
              rotate_left
              · intro W hSw
                obtain ⟨q0, q1, q2, q3, q4⟩ := hSw
                go_simp
                with_reducible rfl
              try simp only [Act.put, List.getElem_toArray, List.getElem_cons_succ, List.getElem_cons_zero, List.setIfInBounds_toArray, List.set_cons_zero, List.set_cons_succ]
              refine wpAnyH_ready (rs := [16]) (by kernel_rfl) (by simp) ?_
              refine AllReadyH.cons (o := _) rfl (fun K' hK => ?_) ?_
              · obtain ⟨⟨p0, p1, p2, p3⟩, fz, W9, hW9, g9, hb9⟩ := four_store HB.out.1 (.int .i64 x.L) (.slice ax L6.length kx) (.slice none 0 0) (.slice ay L11.length ky)
                have HW9 : Hid (W9 = _) := hW9
                have MB : Hid (BMid W1 x.L L6 L11 (.pointer (some ⟨V6.heap.size, 0, none⟩)) W9) := BMid.b G13.out g9 HB.out.2.1 IX.out IY.out (fun y hy => ⟨(NX.out y hy).1, (NX.out y hy).2, K7.out y hy⟩) (fun y hy => ⟨(NY.out y hy).1, (NY.out y hy).2, K13.out y hy⟩) hb9
                have G9 : Hid (W1.grownBy W9 none) := grown_new G13.out g9 HB.out.2.1
                have f0 := fz 0
                have f1 := fz 1
                have f2 := fz 2
                have f3 := fz 3
                clear fz hW9 g9 hb9
                go_simp
                rw [← HW9.out]
                refine hK.out _ _ (S1.out.kept G9.out) (fun hHeld => ?_)
                clear hK K'
                try simp only [Act.put, List.getElem_toArray, List.getElem_cons_succ, List.getElem_cons_zero, List.setIfInBounds_toArray, List.set_cons_zero, List.set_cons_succ]
                refine wpAnyH_done (by kernel_rfl) ?_ _
                go_wp2_with fail
                go_meet
                case rel => exact MB.out
              exact AllReadyH.nil
            exact AllReadyH.nil
          exact AllReadyH.nil
        exact AllReadyH.nil
      exact AllReadyH.nil
    refine AllReadyH.cons (o := _) rfl (fun K' hK => ?_) ?_
    · go_simp
      obtain ⟨V12, hV⟩ : ∃ W, W = Wd.alloc (.cells #[.slice a3 an3 ac3, .slice b3 bn3 bc3] 22) := ⟨_, rfl⟩
      rw [← hV]
      have gV : Hid (Wd.grownBy V12 none) := by show World.grownBy _ _ _; rw [hV]; exact grown_alloc _ _
      have G12 : Hid (W1.grownBy V12 none) := grown_trans Gd.out gV.out
      have C12 : Hid (C2 V12 Wd.heap.size (.slice a3 an3 ac3) (.slice b3 bn3 bc3)) := by show C2 _ _ _ _; rw [hV]; exact c2_new _ _ _ _
      clear hV gV
      refine hK.out _ _ (S1.out.kept G12.out) (fun hHeld => ?_)
      clear hK K'
      try simp only [Act.put, List.getElem_toArray, List.getElem_cons_succ, List.getElem_cons_zero, List.setIfInBounds_toArray, List.set_cons_zero, List.set_cons_succ]
      refine wpAnyH_ready (rs := [6, 15]) (by kernel_rfl) (by simp) ?_
      refine AllReadyH.cons (o := _) rfl (fun K' hK => ?_) ?_
      · go_simp
        obtain ⟨V6, hV⟩ : ∃ W, W = V12.alloc (.cells #[.slice a1 an1 ac1, .slice b1 bn1 bc1] 22) := ⟨_, rfl⟩
        rw [← hV]
        have gV : Hid (V12.grownBy V6 none) := by show World.grownBy _ _ _; rw [hV]; exact grown_alloc _ _
        have G6 : Hid (W1.grownBy V6 none) := grown_trans G12.out gV.out
        have C6 : Hid (C2 V6 V12.heap.size (.slice a1 an1 ac1) (.slice b1 bn1 bc1)) := by show C2 _ _ _ _; rw [hV]; exact c2_new _ _ _ _
        have C12 : Hid (C2 V6 Wd.heap.size (.slice a3 an3 ac3) (.slice b3 bn3 bc3)) := C12.out.kept gV.out
        clear hV gV
        refine hK.out _ _ (S1.out.kept G6.out) (fun hHeld => ?_)
        clear hK K'
        try simp only [Act.put, List.getElem_toArray, List.getElem_cons_succ, List.getElem_cons_zero, List.setIfInBounds_toArray, List.set_cons_zero, List.set_cons_succ]
        refine wpAnyH_ready (rs := [7, 15]) (by kernel_rfl) (by simp) ?_
        refine AllReadyH.cons (o := _) rfl (fun K' hK => ?_) ?_
        · go_simp
          refine (CTA.out _ _ G6.out C6.out).mono ?_
          rintro E V7 ⟨ax, kx, rfl, hix, hgx, hnx, hcx⟩
          have gV : Hid (V6.grownBy V7 none) := hgx
          have G7 : Hid (W1.grownBy V7 none) := grown_trans G6.out hgx
          have C12 : Hid (C2 V7 Wd.heap.size (.slice a3 an3 ac3) (.slice b3 bn3 bc3)) := C12.out.kept gV.out
          have IX : Hid (Ints V7 ax L6) := hix
          have NX : Hid (∀ y, ax = some y → W1.heap.size ≤ y.block ∧ y.block < V7.heap.size) := fun y hy => ⟨Nat.le_trans G6.out.size (hnx y hy).1, (hnx y hy).2⟩
          clear hix hgx hnx hcx gV
          go_wp2_with fail
          refine hK.out _ _ (S1.out.kept G7.out) (fun hHeld => ?_)
          clear hK K'
          try simp only [Act.put, List.getElem_toArray, List.getElem_cons_succ, List.getElem_cons_zero, List.setIfInBounds_toArray, List.set_cons_zero, List.set_cons_succ]
          refine wpAnyH_ready (rs := [13, 15]) (by kernel_rfl) (by simp) ?_
          refine AllReadyH.cons (o := _) rfl (fun K' hK => ?_) ?_
          · go_simp
            refine (CTB.out _ _ G7.out C12.out).mono ?_
            rintro E V13 ⟨ay, ky, rfl, hix, hgx, hnx, hcx⟩
            have gV : Hid (V7.grownBy V13 none) := hgx
            have G13 : Hid (W1.grownBy V13 none) := grown_trans G7.out hgx
            have IX : Hid (Ints V13 ax L6) := IX.out.grown gV.out
            have NX : Hid (∀ y, ax = some y → W1.heap.size ≤ y.block ∧ y.block < V13.heap.size) := fun y hy => ⟨(NX.out y hy).1, Nat.lt_of_lt_of_le (NX.out y hy).2 gV.out.size⟩
            have IY : Hid (Ints V13 ay L11) := hix
            have NY : Hid (∀ y, ay = some y → W1.heap.size ≤ y.block ∧ y.block < V13.heap.size) := fun y hy => ⟨Nat.le_trans G7.out.size (hnx y hy).1, (hnx y hy).2⟩
            clear hix hgx hnx hcx gV
            go_wp2_with fail
            refine hK.out _ _ (S1.out.kept G13.out) (fun hHeld => ?_)
            clear hK K'
            try simp only [Act.put, List.getElem_toArray, List.getElem_cons_succ, List.getElem_cons_zero, List.setIfInBounds_toArray, List.set_cons_zero, List.set_cons_succ]
            refine wpAnyH_take (i := 14) (v := ?_) rfl (by kernel_rfl) (by kernel_rfl) (by kernel_rfl) (fun _ _ _ h => h) (Or.inl ⟨by rfl, ?_⟩) (by assumption) ?_
            rotate_left
            · intro W hSw
              obtain ⟨q0, q1, q2, q3, q4⟩ := hSw
              go_simp
              with_reducible rfl
            try simp only [Act.put, List.getElem_toArray, List.getElem_cons_succ, List.getElem_cons_zero, List.setIfInBounds_toArray, List.set_cons_zero, List.set_cons_succ]
            refine wpAnyH_ready (rs := [15]) (by kernel_rfl) (by simp) ?_
            refine AllReadyH.cons (o := _) rfl (fun K' hK => ?_) ?_
            · go_simp
              obtain ⟨V15, hV⟩ : ∃ W, W = V13.alloc (wgO 0 none 0 0 none 0 0 none 0 0) := ⟨_, rfl⟩
              rw [← hV]
              have gV : Hid (V13.grownBy V15 none) := by show World.grownBy _ _ _; rw [hV]; exact grown_alloc _ _
              have G15 : Hid (W1.grownBy V15 none) := grown_trans G13.out gV.out
              have K7 : Hid (∀ y, ax = some y → y.block ≠ V13.heap.size) := fun y hy => by have h1 := (NX.out y hy).2; omega
              have K13 : Hid (∀ y, ay = some y → y.block ≠ V13.heap.size) := fun y hy => by have h1 := (NY.out y hy).2; omega
              have IX : Hid (Ints V15 ax L6) := IX.out.grown gV.out
              have NX : Hid (∀ y, ax = some y → W1.heap.size ≤ y.block ∧ y.block < V15.heap.size) := fun y hy => ⟨(NX.out y hy).1, Nat.lt_of_lt_of_le (NX.out y hy).2 gV.out.size⟩
              have IY : Hid (Ints V15 ay L11) := IY.out.grown gV.out
              have NY : Hid (∀ y, ay = some y → W1.heap.size ≤ y.block ∧ y.block < V15.heap.size) := fun y hy => ⟨(NY.out y hy).1, Nat.lt_of_lt_of_le (NY.out y hy).2 gV.out.size⟩
              have HB : Hid (V15.heap[V13.heap.size]? = some (.cells #[.int .i64 0, .slice none 0 0, .slice none 0 0, .slice none 0 0] 25) ∧ W1.heap.size ≤ V13.heap.size ∧ V13.heap.size < V15.heap.size) := ⟨by rw [hV]; exact heap_alloc_new _ _, G13.out.size, by rw [hV]; simp⟩
              clear hV gV
              refine hK.out _ _ (S1.out.kept G15.out) (fun hHeld => ?_)
              clear hK K'
              try simp only [Act.put, List.getElem_toArray, List.getElem_cons_succ, List.getElem_cons_zero, List.setIfInBounds_toArray, List.set_cons_zero, List.set_cons_succ]
              refine wpAnyH_ready (rs := [16]) (by kernel_rfl) (by simp) ?_
              refine AllReadyH.cons (o := _) rfl (fun K' hK => ?_) ?_
              · obtain ⟨⟨p0, p1, p2, p3⟩, fz, W9, hW9, g9, hb9⟩ := four_store HB.out.1 (.int .i64 x.L) (.slice ax L6.length kx) (.slice none 0 0) (.slice ay L11.length ky)
                have HW9 : Hid (W9 = _) := hW9
                have MB : Hid (BMid W1 x.L L6 L11 (.pointer (some ⟨V13.heap.size, 0, none⟩)) W9) := BMid.b G15.out g9 HB.out.2.1 IX.out IY.out (fun y hy => ⟨(NX.out y hy).1, (NX.out y hy).2, K7.out y hy⟩) (fun y hy => ⟨(NY.out y hy).1, (NY.out y hy).2, K13.out y hy⟩) hb9
                have G9 : Hid (W1.grownBy W9 none) := grown_new G15.out g9 HB.out.2.1
                have f0 := fz 0
                have f1 := fz 1
                have f2 := fz 2
                have f3 := fz 3
                clear fz hW9 g9 hb9
                go_simp
                rw [← HW9.out]
                refine hK.out _ _ (S1.out.kept G9.out) (fun hHeld => ?_)
                clear hK K'
                try simp only [Act.put, List.getElem_toArray, List.getElem_cons_succ, List.getElem_cons_zero, List.setIfInBounds_toArray, List.set_cons_zero, List.set_cons_succ]
                refine wpAnyH_done (by kernel_rfl) ?_ _
                go_wp2_with fail
                go_meet
                case rel => exact MB.out
              exact AllReadyH.nil
            exact AllReadyH.nil
          refine AllReadyH.cons (o := _) rfl (fun K' hK => ?_) ?_
          · go_simp
            obtain ⟨V15, hV⟩ : ∃ W, W = V7.alloc (wgO 0 none 0 0 none 0 0 none 0 0) := ⟨_, rfl⟩
            rw [← hV]
            have gV : Hid (V7.grownBy V15 none) := by show World.grownBy _ _ _; rw [hV]; exact grown_alloc _ _
            have G15 : Hid (W1.grownBy V15 none) := grown_trans G7.out gV.out
            have K7 : Hid (∀ y, ax = some y → y.block ≠ V7.heap.size) := fun y hy => by have h1 := (NX.out y hy).2; omega
            have C12 : Hid (C2 V15 Wd.heap.size (.slice a3 an3 ac3) (.slice b3 bn3 bc3)) := C12.out.kept gV.out
            have IX : Hid (Ints V15 ax L6) := IX.out.grown gV.out
            have NX : Hid (∀ y, ax = some y → W1.heap.size ≤ y.block ∧ y.block < V15.heap.size) := fun y hy => ⟨(NX.out y hy).1, Nat.lt_of_lt_of_le (NX.out y hy).2 gV.out.size⟩
            have HB : Hid (V15.heap[V7.heap.size]? = some (.cells #[.int .i64 0, .slice none 0 0, .slice none 0 0, .slice none 0 0] 25) ∧ W1.heap.size ≤ V7.heap.size ∧ V7.heap.size < V15.heap.size) := ⟨by rw [hV]; exact heap_alloc_new _ _, G7.out.size, by rw [hV]; simp⟩
            clear hV gV
            refine hK.out _ _ (S1.out.kept G15.out) (fun hHeld => ?_)
            clear hK K'
            try simp only [Act.put, List.getElem_toArray, List.getElem_cons_succ, List.getElem_cons_zero, List.setIfInBounds_toArray, List.set_cons_zero, List.set_cons_succ]
            refine wpAnyH_ready (rs := [13]) (by kernel_rfl) (by simp) ?_
            refine AllReadyH.cons (o := _) rfl (fun K' hK => ?_) ?_
            · go_simp
              have HBS : Hid (V7.heap.size < V15.heap.size) := HB.out.2.2
              refine (CTB.out _ _ G15.out C12.out).mono ?_
              rintro E V13 ⟨ay, ky, rfl, hix, hgx, hnx, hcx⟩
              have gV : Hid (V15.grownBy V13 none) := hgx
              have G13 : Hid (W1.grownBy V13 none) := grown_trans G15.out hgx
              have IX : Hid (Ints V13 ax L6) := IX.out.grown gV.out
              have NX : Hid (∀ y, ax = some y → W1.heap.size ≤ y.block ∧ y.block < V13.heap.size) := fun y hy => ⟨(NX.out y hy).1, Nat.lt_of_lt_of_le (NX.out y hy).2 gV.out.size⟩
              have HB : Hid (V13.heap[V7.heap.size]? = some (.cells #[.int .i64 0, .slice none 0 0, .slice none 0 0, .slice none 0 0] 25) ∧ W1.heap.size ≤ V7.heap.size ∧ V7.heap.size < V13.heap.size) := ⟨(gV.out.block _ HB.out.2.2 (by simp)).trans HB.out.1, HB.out.2.1, Nat.lt_of_lt_of_le HB.out.2.2 gV.out.size⟩
              have IY : Hid (Ints V13 ay L11) := hix
              have NY : Hid (∀ y, ay = some y → W1.heap.size ≤ y.block ∧ y.block < V13.heap.size) := fun y hy => ⟨Nat.le_trans G15.out.size (hnx y hy).1, (hnx y hy).2⟩
              have K13 : Hid (∀ y, ay = some y → y.block ≠ V7.heap.size) := fun y hy => by have h1 := (hnx y hy).1; have h2 := HBS.out; omega
              clear hix hgx hnx hcx gV
              go_wp2_with fail
              refine hK.out _ _ (S1.out.kept G13.out) (fun hHeld => ?_)
              clear hK K'
              try simp only [Act.put, List.getElem_toArray, List.getElem_cons_succ, List.getElem_cons_zero, List.setIfInBounds_toArray, List.set_cons_zero, List.set_cons_succ]
              refine wpAnyH_take (i := 14) (v := ?_) rfl (by kernel_rfl) (by kernel_rfl) (by kernel_rfl) (fun _ _ _ h => h) (Or.inl ⟨by rfl, ?_⟩) (by assumption) ?_
              rotate_left
              · intro W hSw
                obtain ⟨q0, q1, q2, q3, q4⟩ := hSw
                go_simp
                with_reducible rfl
              try simp only [Act.put, List.getElem_toArray, List.getElem_cons_succ, List.getElem_cons_zero, List.setIfInBounds_toArray, List.set_cons_zero, List.set_cons_succ]
              refine wpAnyH_ready (rs := [16]) (by kernel_rfl) (by simp) ?_
              refine AllReadyH.cons (o := _) rfl (fun K' hK => ?_) ?_
              · obtain ⟨⟨p0, p1, p2, p3⟩, fz, W9, hW9, g9, hb9⟩ := four_store HB.out.1 (.int .i64 x.L) (.slice ax L6.length kx) (.slice none 0 0) (.slice ay L11.length ky)
                have HW9 : Hid (W9 = _) := hW9
                have MB : Hid (BMid W1 x.L L6 L11 (.pointer (some ⟨V7.heap.size, 0, none⟩)) W9) := BMid.b G13.out g9 HB.out.2.1 IX.out IY.out (fun y hy => ⟨(NX.out y hy).1, (NX.out y hy).2, K7.out y hy⟩) (fun y hy => ⟨(NY.out y hy).1, (NY.out y hy).2, K13.out y hy⟩) hb9
                have G9 : Hid (W1.grownBy W9 none) := grown_new G13.out g9 HB.out.2.1
                have f0 := fz 0
                have f1 := fz 1
                have f2 := fz 2
                have f3 := fz 3
                clear fz hW9 g9 hb9
                go_simp
                rw [← HW9.out]
                refine hK.out _ _ (S1.out.kept G9.out) (fun hHeld => ?_)
                clear hK K'
                try simp only [Act.put, List.getElem_toArray, List.getElem_cons_succ, List.getElem_cons_zero, List.setIfInBounds_toArray, List.set_cons_zero, List.set_cons_succ]
                refine wpAnyH_done (by kernel_rfl) ?_ _
                go_wp2_with fail
                go_meet
                case rel => exact MB.out
              exact AllReadyH.nil
            exact AllReadyH.nil
          exact AllReadyH.nil
        refine AllReadyH.cons (o := _) rfl (fun K' hK => ?_) ?_
        · go_simp
          obtain ⟨V15, hV⟩ : ∃ W, W = V6.alloc (wgO 0 none 0 0 none 0 0 none 0 0) := ⟨_, rfl⟩
          rw [← hV]
          have gV : Hid (V6.grownBy V15 none) := by show World.grownBy _ _ _; rw [hV]; exact grown_alloc _ _
          have G15 : Hid (W1.grownBy V15 none) := grown_trans G6.out gV.out
          have C6 : Hid (C2 V15 V12.heap.size (.slice a1 an1 ac1) (.slice b1 bn1 bc1)) := C6.out.kept gV.out
          have C12 : Hid (C2 V15 Wd.heap.size (.slice a3 an3 ac3) (.slice b3 bn3 bc3)) := C12.out.kept gV.out
          have HB : Hid (V15.heap[V6.heap.size]? = some (.cells #[.int .i64 0, .slice none 0 0, .slice none 0 0, .slice none 0 0] 25) ∧ W1.heap.size ≤ V6.heap.size ∧ V6.heap.size < V15.heap.size) := ⟨by rw [hV]; exact heap_alloc_new _ _, G6.out.size, by rw [hV]; simp⟩
          clear hV gV
          refine hK.out _ _ (S1.out.kept G15.out) (fun hHeld => ?_)
          clear hK K'
          try simp only [Act.put, List.getElem_toArray, List.getElem_cons_succ, List.getElem_cons_zero, List.setIfInBounds_toArray, List.set_cons_zero, List.set_cons_succ]
          refine wpAnyH_ready (rs := [7]) (by kernel_rfl) (by simp) ?_
          refine AllReadyH.cons (o := _) rfl (fun K' hK => ?_) ?_
          · go_simp
            have HBS : Hid (V6.heap.size < V15.heap.size) := HB.out.2.2
            refine (CTA.out _ _ G15.out C6.out).mono ?_
            rintro E V7 ⟨ax, kx, rfl, hix, hgx, hnx, hcx⟩
            have gV : Hid (V15.grownBy V7 none) := hgx
            have G7 : Hid (W1.grownBy V7 none) := grown_trans G15.out hgx
            have C12 : Hid (C2 V7 Wd.heap.size (.slice a3 an3 ac3) (.slice b3 bn3 bc3)) := C12.out.kept gV.out
            have HB : Hid (V7.heap[V6.heap.size]? = some (.cells #[.int .i64 0, .slice none 0 0, .slice none 0 0, .slice none 0 0] 25) ∧ W1.heap.size ≤ V6.heap.size ∧ V6.heap.size < V7.heap.size) := ⟨(gV.out.block _ HB.out.2.2 (by simp)).trans HB.out.1, HB.out.2.1, Nat.lt_of_lt_of_le HB.out.2.2 gV.out.size⟩
            have IX : Hid (Ints V7 ax L6) := hix
            have NX : Hid (∀ y, ax = some y → W1.heap.size ≤ y.block ∧ y.block < V7.heap.size) := fun y hy => ⟨Nat.le_trans G15.out.size (hnx y hy).1, (hnx y hy).2⟩
            have K7 : Hid (∀ y, ax = some y → y.block ≠ V6.heap.size) := fun y hy => by have h1 := (hnx y hy).1; have h2 := HBS.out; omega
            clear hix hgx hnx hcx gV
            go_wp2_with fail
            refine hK.out _ _ (S1.out.kept G7.out) (fun hHeld => ?_)
            clear hK K'
            try simp only [Act.put, List.getElem_toArray, List.getElem_cons_succ, List.getElem_cons_zero, List.setIfInBounds_toArray, List.set_cons_zero, List.set_cons_succ]
            refine wpAnyH_ready (rs := [13]) (by kernel_rfl) (by simp) ?_
            refine AllReadyH.cons (o := _) rfl (fun K' hK => ?_) ?_
            · go_simp
              have HBS : Hid (V6.heap.size < V7.heap.size) := HB.out.2.2
              refine (CTB.out _ _ G7.out C12.out).mono ?_
              rintro E V13 ⟨ay, ky, rfl, hix, hgx, hnx, hcx⟩
              have gV : Hid (V7.grownBy V13 none) := hgx
              have G13 : Hid (W1.grownBy V13 none) := grown_trans G7.out hgx
              have IX : Hid (Ints V13 ax L6) := IX.out.grown gV.out
              have NX : Hid (∀ y, ax = some y → W1.heap.size ≤ y.block ∧ y.block < V13.heap.size) := fun y hy => ⟨(NX.out y hy).1, Nat.lt_of_lt_of_le (NX.out y hy).2 gV.out.size⟩
              have HB : Hid (V13.heap[V6.heap.size]? = some (.cells #[.int .i64 0, .slice none 0 0, .slice none 0 0, .slice none 0 0] 25) ∧ W1.heap.size ≤ V6.heap.size ∧ V6.heap.size < V13.heap.size) := ⟨(gV.out.block _ HB.out.2.2 (by simp)).trans HB.out.1, HB.out.2.1, Nat.lt_of_lt_of_le HB.out.2.2 gV.out.size⟩
              have IY : Hid (Ints V13 ay L11) := hix
              have NY : Hid (∀ y, ay = some y → W1.heap.size ≤ y.block ∧ y.block < V13.heap.size) := fun y hy => ⟨Nat.le_trans G7.out.size (hnx y hy).1, (hnx y hy).2⟩
              have K13 : Hid (∀ y, ay = some y → y.block ≠ V6.heap.size) := fun y hy => by have h1 := (hnx y hy).1; have h2 := HBS.out; omega
              clear hix hgx hnx hcx gV
              go_wp2_with fail
              refine hK.out _ _ (S1.out.kept G13.out) (fun hHeld => ?_)
              clear hK K'
              try simp only [Act.put, List.getElem_toArray, List.getElem_cons_succ, List.getElem_cons_zero, List.setIfInBounds_toArray, List.set_cons_zero, List.set_cons_succ]
              refine wpAnyH_take (i := 14) (v := ?_) rfl (by kernel_rfl) (by kernel_rfl) (by kernel_rfl) (fun _ _ _ h => h) (Or.inl ⟨by rfl, ?_⟩) (by assumption) ?_
              rotate_left
              · intro W hSw
                obtain ⟨q0, q1, q2, q3, q4⟩ := hSw
                go_simp
                with_reducible rfl
              try simp only [Act.put, List.getElem_toArray, List.getElem_cons_succ, List.getElem_cons_zero, List.setIfInBounds_toArray, List.set_cons_zero, List.set_cons_succ]
              refine wpAnyH_ready (rs := [16]) (by kernel_rfl) (by simp) ?_
              refine AllReadyH.cons (o := _) rfl (fun K' hK => ?_) ?_
              · obtain ⟨⟨p0, p1, p2, p3⟩, fz, W9, hW9, g9, hb9⟩ := four_store HB.out.1 (.int .i64 x.L) (.slice ax L6.length kx) (.slice none 0 0) (.slice ay L11.length ky)
                have HW9 : Hid (W9 = _) := hW9
                have MB : Hid (BMid W1 x.L L6 L11 (.pointer (some ⟨V6.heap.size, 0, none⟩)) W9) := BMid.b G13.out g9 HB.out.2.1 IX.out IY.out (fun y hy => ⟨(NX.out y hy).1, (NX.out y hy).2, K7.out y hy⟩) (fun y hy => ⟨(NY.out y hy).1, (NY.out y hy).2, K13.out y hy⟩) hb9
                have G9 : Hid (W1.grownBy W9 none) := grown_new G13.out g9 HB.out.2.1
                have f0 := fz 0
                have f1 := fz 1
                have f2 := fz 2
                have f3 := fz 3
                clear fz hW9 g9 hb9
                go_simp
                rw [← HW9.out]
                refine hK.out _ _ (S1.out.kept G9.out) (fun hHeld => ?_)
                clear hK K'
                try simp only [Act.put, List.getElem_toArray, List.getElem_cons_succ, List.getElem_cons_zero, List.setIfInBounds_toArray, List.set_cons_zero, List.set_cons_succ]
                refine wpAnyH_done (by kernel_rfl) ?_ _
                go_wp2_with fail
                go_meet
                case rel => exact MB.out
              exact AllReadyH.nil
            exact AllReadyH.nil
          exact AllReadyH.nil
        exact AllReadyH.nil
      refine AllReadyH.cons (o := _) rfl (fun K' hK => ?_) ?_
      · go_simp
        obtain ⟨V15, hV⟩ : ∃ W, W = V12.alloc (wgO 0 none 0 0 none 0 0 none 0 0) := ⟨_, rfl⟩
        rw [← hV]
        have gV : Hid (V12.grownBy V15 none) := by show World.grownBy _ _ _; rw [hV]; exact grown_alloc _ _
        have G15 : Hid (W1.grownBy V15 none) := grown_trans G12.out gV.out
        have C12 : Hid (C2 V15 Wd.heap.size (.slice a3 an3 ac3) (.slice b3 bn3 bc3)) := C12.out.kept gV.out
        have HB : Hid (V15.heap[V12.heap.size]? = some (.cells #[.int .i64 0, .slice none 0 0, .slice none 0 0, .slice none 0 0] 25) ∧ W1.heap.size ≤ V12.heap.size ∧ V12.heap.size < V15.heap.size) := ⟨by rw [hV]; exact heap_alloc_new _ _, G12.out.size, by rw [hV]; simp⟩
        clear hV gV
        refine hK.out _ _ (S1.out.kept G15.out) (fun hHeld => ?_)
        clear hK K'
        try simp only [Act.put, List.getElem_toArray, List.getElem_cons_succ, List.getElem_cons_zero, List.setIfInBounds_toArray, List.set_cons_zero, List.set_cons_succ]
        refine wpAnyH_ready (rs := [6]) (by kernel_rfl) (by simp) ?_
        refine AllReadyH.cons (o := _) rfl (fun K' hK => ?_) ?_
        · go_simp
          obtain ⟨V6, hV⟩ : ∃ W, W = V15.alloc (.cells #[.slice a1 an1 ac1, .slice b1 bn1 bc1] 22) := ⟨_, rfl⟩
          rw [← hV]
          have gV : Hid (V15.grownBy V6 none) := by show World.grownBy _ _ _; rw [hV]; exact grown_alloc _ _
          have G6 : Hid (W1.grownBy V6 none) := grown_trans G15.out gV.out
          have C6 : Hid (C2 V6 V15.heap.size (.slice a1 an1 ac1) (.slice b1 bn1 bc1)) := by show C2 _ _ _ _; rw [hV]; exact c2_new _ _ _ _
          have C12 : Hid (C2 V6 Wd.heap.size (.slice a3 an3 ac3) (.slice b3 bn3 bc3)) := C12.out.kept gV.out
          have HB : Hid (V6.heap[V12.heap.size]? = some (.cells #[.int .i64 0, .slice none 0 0, .slice none 0 0, .slice none 0 0] 25) ∧ W1.heap.size ≤ V12.heap.size ∧ V12.heap.size < V6.heap.size) := ⟨(gV.out.block _ HB.out.2.2 (by simp)).trans HB.out.1, HB.out.2.1, Nat.lt_of_lt_of_le HB.out.2.2 gV.out.size⟩
          clear hV gV
          refine hK.out _ _ (S1.out.kept G6.out) (fun hHeld => ?_)
          clear hK K'
          try simp only [Act.put, List.getElem_toArray, List.getElem_cons_succ, List.getElem_cons_zero, List.setIfInBounds_toArray, List.set_cons_zero, List.set_cons_succ]
          refine wpAnyH_ready (rs := [7]) (by kernel_rfl) (by simp) ?_
          refine AllReadyH.cons (o := _) rfl (fun K' hK => ?_) ?_
          · go_simp
            have HBS : Hid (V12.heap.size < V6.heap.size) := HB.out.2.2
            refine (CTA.out _ _ G6.out C6.out).mono ?_
            rintro E V7 ⟨ax, kx, rfl, hix, hgx, hnx, hcx⟩
            have gV : Hid (V6.grownBy V7 none) := hgx
            have G7 : Hid (W1.grownBy V7 none) := grown_trans G6.out hgx
            have C12 : Hid (C2 V7 Wd.heap.size (.slice a3 an3 ac3) (.slice b3 bn3 bc3)) := C12.out.kept gV.out
            have HB : Hid (V7.heap[V12.heap.size]? = some (.cells #[.int .i64 0, .slice none 0 0, .slice none 0 0, .slice none 0 0] 25) ∧ W1.heap.size ≤ V12.heap.size ∧ V12.heap.size < V7.heap.size) := ⟨(gV.out.block _ HB.out.2.2 (by simp)).trans HB.out.1, HB.out.2.1, Nat.lt_of_lt_of_le HB.out.2.2 gV.out.size⟩
            have IX : Hid (Ints V7 ax L6) := hix
            have NX : Hid (∀ y, ax = some y → W1.heap.size ≤ y.block ∧ y.block < V7.heap.size) := fun y hy => ⟨Nat.le_trans G6.out.size (hnx y hy).1, (hnx y hy).2⟩
            have K7 : Hid (∀ y, ax = some y → y.block ≠ V12.heap.size) := fun y hy => by have h1 := (hnx y hy).1; have h2 := HBS.out; omega
            clear hix hgx hnx hcx gV
            go_wp2_with fail
            refine hK.out _ _ (S1.out.kept G7.out) (fun hHeld => ?_)
            clear hK K'
            try simp only [Act.put, List.getElem_toArray, List.getElem_cons_succ, List.getElem_cons_zero, List.setIfInBounds_toArray, List.set_cons_zero, List.set_cons_succ]
            refine wpAnyH_ready (rs := [13]) (by kernel_rfl) (by simp) ?_
            refine AllReadyH.cons (o := _) rfl (fun K' hK => ?_) ?_
            · go_simp
              have HBS : Hid (V12.heap.size < V7.heap.size) := HB.out.2.2
              refine (CTB.out _ _ G7.out C12.out).mono ?_
              rintro E V13 ⟨ay, ky, rfl, hix, hgx, hnx, hcx⟩
              have gV : Hid (V7.grownBy V13 none) := hgx
              have G13 : Hid (W1.grownBy V13 none) := grown_trans G7.out hgx
              have IX : Hid (Ints V13 ax L6) := IX.out.grown gV.out
              have NX : Hid (∀ y, ax = some y → W1.heap.size ≤ y.block ∧ y.block < V13.heap.size) := fun y hy => ⟨(NX.out y hy).1, Nat.lt_of_lt_of_le (NX.out y hy).2 gV.out.size⟩
              have HB : Hid (V13.heap[V12.heap.size]? = some (.cells #[.int .i64 0, .slice none 0 0, .slice none 0 0, .slice none 0 0] 25) ∧ W1.heap.size ≤ V12.heap.size ∧ V12.heap.size < V13.heap.size) := ⟨(gV.out.block _ HB.out.2.2 (by simp)).trans HB.out.1, HB.out.2.1, Nat.lt_of_lt_of_le HB.out.2.2 gV.out.size⟩
              have IY : Hid (Ints V13 ay L11) := hix
              have NY : Hid (∀ y, ay = some y → W1.heap.size ≤ y.block ∧ y.block < V13.heap.size) := fun y hy => ⟨Nat.le_trans G7.out.size (hnx y hy).1, (hnx y hy).2⟩
              have K13 : Hid (∀ y, ay = some y → y.block ≠ V12.heap.size) := fun y hy => by have h1 := (hnx y hy).1; have h2 := HBS.out; omega
              clear hix hgx hnx hcx gV
              go_wp2_with fail
              refine hK.out _ _ (S1.out.kept G13.out) (fun hHeld => ?_)
              clear hK K'
              try simp only [Act.put, List.getElem_toArray, List.getElem_cons_succ, List.getElem_cons_zero, List.setIfInBounds_toArray, List.set_cons_zero, List.set_cons_succ]
              refine wpAnyH_take (i := 14) (v := ?_) rfl (by kernel_rfl) (by kernel_rfl) (by kernel_rfl) (fun _ _ _ h => h) (Or.inl ⟨by rfl, ?_⟩) (by assumption) ?_
              rotate_left
              · intro W hSw
                obtain ⟨q0, q1, q2, q3, q4⟩ := hSw
                go_simp
                with_reducible rfl
              try simp only [Act.put, List.getElem_toArray, List.getElem_cons_succ, List.getElem_cons_zero, List.setIfInBounds_toArray, List.set_cons_zero, List.set_cons_succ]
              refine wpAnyH_ready (rs := [16]) (by kernel_rfl) (by simp) ?_
              refine AllReadyH.cons (o := _) rfl (fun K' hK => ?_) ?_
              · obtain ⟨⟨p0, p1, p2, p3⟩, fz, W9, hW9, g9, hb9⟩ := four_store HB.out.1 (.int .i64 x.L) (.slice ax L6.length kx) (.slice none 0 0) (.slice ay L11.length ky)
                have HW9 : Hid (W9 = _) := hW9
                have MB : Hid (BMid W1 x.L L6 L11 (.pointer (some ⟨V12.heap.size, 0, none⟩)) W9) := BMid.b G13.out g9 HB.out.2.1 IX.out IY.out (fun y hy => ⟨(NX.out y hy).1, (NX.out y hy).2, K7.out y hy⟩) (fun y hy => ⟨(NY.out y hy).1, (NY.out y hy).2, K13.out y hy⟩) hb9
                have G9 : Hid (W1.grownBy W9 none) := grown_new G13.out g9 HB.out.2.1
                have f0 := fz 0
                have f1 := fz 1
                have f2 := fz 2
                have f3 := fz 3
                clear fz hW9 g9 hb9
                go_simp
                rw [← HW9.out]
                refine hK.out _ _ (S1.out.kept G9.out) (fun hHeld => ?_)
                clear hK K'
                try simp only [Act.put, List.getElem_toArray, List.getElem_cons_succ, List.getElem_cons_zero, List.setIfInBounds_toArray, List.set_cons_zero, List.set_cons_succ]
                refine wpAnyH_done (by kernel_rfl) ?_ _
                go_wp2_with fail
                go_meet
                case rel => exact MB.out
              exact AllReadyH.nil
            exact AllReadyH.nil
          exact AllReadyH.nil
        exact AllReadyH.nil
      exact AllReadyH.nil
    refine AllReadyH.cons (o := _) rfl (fun K' hK => ?_) ?_
    · go_simp
      obtain ⟨V15, hV⟩ : ∃ W, W = Wd.alloc (wgO 0 none 0 0 none 0 0 none 0 0) := ⟨_, rfl⟩
      rw [← hV]
      have gV : Hid (Wd.grownBy V15 none) := by show World.grownBy _ _ _; rw [hV]; exact grown_alloc _ _
      have G15 : Hid (W1.grownBy V15 none) := grown_trans Gd.out gV.out
      have HB : Hid (V15.heap[Wd.heap.size]? = some (.cells #[.int .i64 0, .slice none 0 0, .slice none 0 0, .slice none 0 0] 25) ∧ W1.heap.size ≤ Wd.heap.size ∧ Wd.heap.size < V15.heap.size) := ⟨by rw [hV]; exact heap_alloc_new _ _, Gd.out.size, by rw [hV]; simp⟩
      clear hV gV
      refine hK.out _ _ (S1.out.kept G15.out) (fun hHeld => ?_)
      clear hK K'
      try simp only [Act.put, List.getElem_toArray, List.getElem_cons_succ, List.getElem_cons_zero, List.setIfInBounds_toArray, List.set_cons_zero, List.set_cons_succ]
      refine wpAnyH_ready (rs := [6, 12]) (by kernel_rfl) (by simp) ?_
      refine AllReadyH.cons (o := _) rfl (fun K' hK => ?_) ?_
      · go_simp
        obtain ⟨V6, hV⟩ : ∃ W, W = V15.alloc (.cells #[.slice a1 an1 ac1, .slice b1 bn1 bc1] 22) := ⟨_, rfl⟩
        rw [← hV]
        have gV : Hid (V15.grownBy V6 none) := by show World.grownBy _ _ _; rw [hV]; exact grown_alloc _ _
        have G6 : Hid (W1.grownBy V6 none) := grown_trans G15.out gV.out
        have C6 : Hid (C2 V6 V15.heap.size (.slice a1 an1 ac1) (.slice b1 bn1 bc1)) := by show C2 _ _ _ _; rw [hV]; exact c2_new _ _ _ _
        have HB : Hid (V6.heap[Wd.heap.size]? = some (.cells #[.int .i64 0, .slice none 0 0, .slice none 0 0, .slice none 0 0] 25) ∧ W1.heap.size ≤ Wd.heap.size ∧ Wd.heap.size < V6.heap.size) := ⟨(gV.out.block _ HB.out.2.2 (by simp)).trans HB.out.1, HB.out.2.1, Nat.lt_of_lt_of_le HB.out.2.2 gV.out.size⟩
        clear hV gV
        refine hK.out _ _ (S1.out.kept G6.out) (fun hHeld => ?_)
        clear hK K'
        try simp only [Act.put, List.getElem_toArray, List.getElem_cons_succ, List.getElem_cons_zero, List.setIfInBounds_toArray, List.set_cons_zero, List.set_cons_succ]
        refine wpAnyH_ready (rs := [7, 12]) (by kernel_rfl) (by simp) ?_
        refine AllReadyH.cons (o := _) rfl (fun K' hK => ?_) ?_
        · go_simp
          have HBS : Hid (Wd.heap.size < V6.heap.size) := HB.out.2.2
          refine (CTA.out _ _ G6.out C6.out).mono ?_
          rintro E V7 ⟨ax, kx, rfl, hix, hgx, hnx, hcx⟩
          have gV : Hid (V6.grownBy V7 none) := hgx
          have G7 : Hid (W1.grownBy V7 none) := grown_trans G6.out hgx
          have HB : Hid (V7.heap[Wd.heap.size]? = some (.cells #[.int .i64 0, .slice none 0 0, .slice none 0 0, .slice none 0 0] 25) ∧ W1.heap.size ≤ Wd.heap.size ∧ Wd.heap.size < V7.heap.size) := ⟨(gV.out.block _ HB.out.2.2 (by simp)).trans HB.out.1, HB.out.2.1, Nat.lt_of_lt_of_le HB.out.2.2 gV.out.size⟩
          have IX : Hid (Ints V7 ax L6) := hix
          have NX : Hid (∀ y, ax = some y → W1.heap.size ≤ y.block ∧ y.block < V7.heap.size) := fun y hy => ⟨Nat.le_trans G6.out.size (hnx y hy).1, (hnx y hy).2⟩
          have K7 : Hid (∀ y, ax = some y → y.block ≠ Wd.heap.size) := fun y hy => by have h1 := (hnx y hy).1; have h2 := HBS.out; omega
          clear hix hgx hnx hcx gV
          go_wp2_with fail
          refine hK.out _ _ (S1.out.kept G7.out) (fun hHeld => ?_)
          clear hK K'
          try simp only [Act.put, List.getElem_toArray, List.getElem_cons_succ, List.getElem_cons_zero, List.setIfInBounds_toArray, List.set_cons_zero, List.set_cons_succ]
          refine wpAnyH_ready (rs := [12]) (by kernel_rfl) (by simp) ?_
          refine AllReadyH.cons (o := _) rfl (fun K' hK => ?_) ?_
          · go_simp
            obtain ⟨V12, hV⟩ : ∃ W, W = V7.alloc (.cells #[.slice a3 an3 ac3, .slice b3 bn3 bc3] 22) := ⟨_, rfl⟩
            rw [← hV]
            have gV : Hid (V7.grownBy V12 none) := by show World.grownBy _ _ _; rw [hV]; exact grown_alloc _ _
            have G12 : Hid (W1.grownBy V12 none) := grown_trans G7.out gV.out
            have C12 : Hid (C2 V12 V7.heap.size (.slice a3 an3 ac3) (.slice b3 bn3 bc3)) := by show C2 _ _ _ _; rw [hV]; exact c2_new _ _ _ _
            have IX : Hid (Ints V12 ax L6) := IX.out.grown gV.out
            have NX : Hid (∀ y, ax = some y → W1.heap.size ≤ y.block ∧ y.block < V12.heap.size) := fun y hy => ⟨(NX.out y hy).1, Nat.lt_of_lt_of_le (NX.out y hy).2 gV.out.size⟩
            have HB : Hid (V12.heap[Wd.heap.size]? = some (.cells #[.int .i64 0, .slice none 0 0, .slice none 0 0, .slice none 0 0] 25) ∧ W1.heap.size ≤ Wd.heap.size ∧ Wd.heap.size < V12.heap.size) := ⟨(gV.out.block _ HB.out.2.2 (by simp)).trans HB.out.1, HB.out.2.1, Nat.lt_of_lt_of_le HB.out.2.2 gV.out.size⟩
            clear hV gV
            refine hK.out _ _ (S1.out.kept G12.out) (fun hHeld => ?_)
            clear hK K'
            try simp only [Act.put, List.getElem_toArray, List.getElem_cons_succ, List.getElem_cons_zero, List.setIfInBounds_toArray, List.set_cons_zero, List.set_cons_succ]
            refine wpAnyH_ready (rs := [13]) (by kernel_rfl) (by simp) ?_
            refine AllReadyH.cons (o := _) rfl (fun K' hK => ?_) ?_
            · go_simp
              have HBS : Hid (Wd.heap.size < V12.heap.size) := HB.out.2.2
              refine (CTB.out _ _ G12.out C12.out).mono ?_
              rintro E V13 ⟨ay, ky, rfl, hix, hgx, hnx, hcx⟩
              have gV : Hid (V12.grownBy V13 none) := hgx
              have G13 : Hid (W1.grownBy V13 none) := grown_trans G12.out hgx
              have IX : Hid (Ints V13 ax L6) := IX.out.grown gV.out
              have NX : Hid (∀ y, ax = some y → W1.heap.size ≤ y.block ∧ y.block < V13.heap.size) := fun y hy => ⟨(NX.out y hy).1, Nat.lt_of_lt_of_le (NX.out y hy).2 gV.out.size⟩
              have HB : Hid (V13.heap[Wd.heap.size]? = some (.cells #[.int .i64 0, .slice none 0 0, .slice none 0 0, .slice none 0 0] 25) ∧ W1.heap.size ≤ Wd.heap.size ∧ Wd.heap.size < V13.heap.size) := ⟨(gV.out.block _ HB.out.2.2 (by simp)).trans HB.out.1, HB.out.2.1, Nat.lt_of_lt_of_le HB.out.2.2 gV.out.size⟩
              have IY : Hid (Ints V13 ay L11) := hix
              have NY : Hid (∀ y, ay = some y → W1.heap.size ≤ y.block ∧ y.block < V13.heap.size) := fun y hy => ⟨Nat.le_trans G12.out.size (hnx y hy).1, (hnx y hy).2⟩
              have K13 : Hid (∀ y, ay = some y → y.block ≠ Wd.heap.size) := fun y hy => by have h1 := (hnx y hy).1; have h2 := HBS.out; omega
              clear hix hgx hnx hcx gV
              go_wp2_with fail
              refine hK.out _ _ (S1.out.kept G13.out) (fun hHeld => ?_)
              clear hK K'
              try simp only [Act.put, List.getElem_toArray, List.getElem_cons_succ, List.getElem_cons_zero, List.setIfInBounds_toArray, List.set_cons_zero, List.set_cons_succ]
              refine wpAnyH_take (i := 14) (v := ?_) rfl (by kernel_rfl) (by kernel_rfl) (by kernel_rfl) (fun _ _ _ h => h) (Or.inl ⟨by rfl, ?_⟩) (by assumption) ?_
              rotate_left
              · intro W hSw
                obtain ⟨q0, q1, q2, q3, q4⟩ := hSw
                go_simp
                with_reducible rfl
              try simp only [Act.put, List.getElem_toArray, List.getElem_cons_succ, List.getElem_cons_zero, List.setIfInBounds_toArray, List.set_cons_zero, List.set_cons_succ]
              refine wpAnyH_ready (rs := [16]) (by kernel_rfl) (by simp) ?_
              refine AllReadyH.cons (o := _) rfl (fun K' hK => ?_) ?_
              · obtain ⟨⟨p0, p1, p2, p3⟩, fz, W9, hW9, g9, hb9⟩ := four_store HB.out.1 (.int .i64 x.L) (.slice ax L6.length kx) (.slice none 0 0) (.slice ay L11.length ky)
                have HW9 : Hid (W9 = _) := hW9
                have MB : Hid (BMid W1 x.L L6 L11 (.pointer (some ⟨Wd.heap.size, 0, none⟩)) W9) := BMid.b G13.out g9 HB.out.2.1 IX.out IY.out (fun y hy => ⟨(NX.out y hy).1, (NX.out y hy).2, K7.out y hy⟩) (fun y hy => ⟨(NY.out y hy).1, (NY.out y hy).2, K13.out y hy⟩) hb9
                have G9 : Hid (W1.grownBy W9 none) := grown_new G13.out g9 HB.out.2.1
                have f0 := fz 0
                have f1 := fz 1
                have f2 := fz 2
                have f3 := fz 3
                clear fz hW9 g9 hb9
                go_simp
                rw [← HW9.out]
                refine hK.out _ _ (S1.out.kept G9.out) (fun hHeld => ?_)
                clear hK K'
                try simp only [Act.put, List.getElem_toArray, List.getElem_cons_succ, List.getElem_cons_zero, List.setIfInBounds_toArray, List.set_cons_zero, List.set_cons_succ]
                refine wpAnyH_done (by kernel_rfl) ?_ _
                go_wp2_with fail
                go_meet
                case rel => exact MB.out
              exact AllReadyH.nil
            exact AllReadyH.nil
          exact AllReadyH.nil
        refine AllReadyH.cons (o := _) rfl (fun K' hK => ?_) ?_
        · go_simp
          obtain ⟨V12, hV⟩ : ∃ W, W = V6.alloc (.cells #[.slice a3 an3 ac3, .slice b3 bn3 bc3] 22) := ⟨_, rfl⟩
          rw [← hV]
          have gV : Hid (V6.grownBy V12 none) := by show World.grownBy _ _ _; rw [hV]; exact grown_alloc _ _
          have G12 : Hid (W1.grownBy V12 none) := grown_trans G6.out gV.out
          have C12 : Hid (C2 V12 V6.heap.size (.slice a3 an3 ac3) (.slice b3 bn3 bc3)) := by show C2 _ _ _ _; rw [hV]; exact c2_new _ _ _ _
          have C6 : Hid (C2 V12 V15.heap.size (.slice a1 an1 ac1) (.slice b1 bn1 bc1)) := C6.out.kept gV.out
          have HB : Hid (V12.heap[Wd.heap.size]? = some (.cells #[.int .i64 0, .slice none 0 0, .slice none 0 0, .slice none 0 0] 25) ∧ W1.heap.size ≤ Wd.heap.size ∧ Wd.heap.size < V12.heap.size) := ⟨(gV.out.block _ HB.out.2.2 (by simp)).trans HB.out.1, HB.out.2.1, Nat.lt_of_lt_of_le HB.out.2.2 gV.out.size⟩
          clear hV gV
          refine hK.out _ _ (S1.out.kept G12.out) (fun hHeld => ?_)
          clear hK K'
          try simp only [Act.put, List.getElem_toArray, List.getElem_cons_succ, List.getElem_cons_zero, List.setIfInBounds_toArray, List.set_cons_zero, List.set_cons_succ]
          refine wpAnyH_ready (rs := [7]) (by kernel_rfl) (by simp) ?_
          refine AllReadyH.cons (o := _) rfl (fun K' hK => ?_) ?_
          · go_simp
            have HBS : Hid (Wd.heap.size < V12.heap.size) := HB.out.2.2
            refine (CTA.out _ _ G12.out C6.out).mono ?_
            rintro E V7 ⟨ax, kx, rfl, hix, hgx, hnx, hcx⟩
            have gV : Hid (V12.grownBy V7 none) := hgx
            have G7 : Hid (W1.grownBy V7 none) := grown_trans G12.out hgx
            have C12 : Hid (C2 V7 V6.heap.size (.slice a3 an3 ac3) (.slice b3 bn3 bc3)) := C12.out.kept gV.out
            have HB : Hid (V7.heap[Wd.heap.size]? = some (.cells #[.int .i64 0, .slice none 0 0, .slice none 0 0, .slice none 0 0] 25) ∧ W1.heap.size ≤ Wd.heap.size ∧ Wd.heap.size < V7.heap.size) := ⟨(gV.out.block _ HB.out.2.2 (by simp)).trans HB.out.1, HB.out.2.1, Nat.lt_of_lt_of_le HB.out.2.2 gV.out.size⟩
            have IX : Hid (Ints V7 ax L6) := hix
            have NX : Hid (∀ y, ax = some y → W1.heap.size ≤ y.block ∧ y.block < V7.heap.size) := fun y hy => ⟨Nat.le_trans G12.out.size (hnx y hy).1, (hnx y hy).2⟩
            have K7 : Hid (∀ y, ax = some y → y.block ≠ Wd.heap.size) := fun y hy => by have h1 := (hnx y hy).1; have h2 := HBS.out; omega
            clear hix hgx hnx hcx gV
            go_wp2_with fail
            refine hK.out _ _ (S1.out.kept G7.out) (fun hHeld => ?_)
            clear hK K'
            try simp only [Act.put, List.getElem_toArray, List.getElem_cons_succ, List.getElem_cons_zero, List.setIfInBounds_toArray, List.set_cons_zero, List.set_cons_succ]
            refine wpAnyH_ready (rs := [13]) (by kernel_rfl) (by simp) ?_
            refine AllReadyH.cons (o := _) rfl (fun K' hK => ?_) ?_
            · go_simp
              have HBS : Hid (Wd.heap.size < V7.heap.size) := HB.out.2.2
              refine (CTB.out _ _ G7.out C12.out).mono ?_
              rintro E V13 ⟨ay, ky, rfl, hix, hgx, hnx, hcx⟩
              have gV : Hid (V7.grownBy V13 none) := hgx
              have G13 : Hid (W1.grownBy V13 none) := grown_trans G7.out hgx
              have IX : Hid (Ints V13 ax L6) := IX.out.grown gV.out
              have NX : Hid (∀ y, ax = some y → W1.heap.size ≤ y.block ∧ y.block < V13.heap.size) := fun y hy => ⟨(NX.out y hy).1, Nat.lt_of_lt_of_le (NX.out y hy).2 gV.out.size⟩
              have HB : Hid (V13.heap[Wd.heap.size]? = some (.cells #[.int .i64 0, .slice none 0 0, .slice none 0 0, .slice none 0 0] 25) ∧ W1.heap.size ≤ Wd.heap.size ∧ Wd.heap.size < V13.heap.size) := ⟨(gV.out.block _ HB.out.2.2 (by simp)).trans HB.out.1, HB.out.2.1, Nat.lt_of_lt_of_le HB.out.2.2 gV.out.size⟩
              have IY : Hid (Ints V13 ay L11) := hix
              have NY : Hid (∀ y, ay = some y → W1.heap.size ≤ y.block ∧ y.block < V13.heap.size) := fun y hy => ⟨Nat.le_trans G7.out.size (hnx y hy).1, (hnx y hy).2⟩
              have K13 : Hid (∀ y, ay = some y → y.block ≠ Wd.heap.size) := fun y hy => by have h1 := (hnx y hy).1; have h2 := HBS.out; omega
              clear hix hgx hnx hcx gV
              go_wp2_with fail
              refine hK.out _ _ (S1.out.kept G13.out) (fun hHeld => ?_)
              clear hK K'
              try simp only [Act.put, List.getElem_toArray, List.getElem_cons_succ, List.getElem_cons_zero, List.setIfInBounds_toArray, List.set_cons_zero, List.set_cons_succ]
              refine wpAnyH_take (i := 14) (v := ?_) rfl (by kernel_rfl) (by kernel_rfl) (by kernel_rfl) (fun _ _ _ h => h) (Or.inl ⟨by rfl, ?_⟩) (by assumption) ?_
              rotate_left
              · intro W hSw
                obtain ⟨q0, q1, q2, q3, q4⟩ := hSw
                go_simp
                with_reducible rfl
              try simp only [Act.put, List.getElem_toArray, List.getElem_cons_succ, List.getElem_cons_zero, List.setIfInBounds_toArray, List.set_cons_zero, List.set_cons_succ]
              refine wpAnyH_ready (rs := [16]) (by kernel_rfl) (by simp) ?_
              refine AllReadyH.cons (o := _) rfl (fun K' hK => ?_) ?_
              · obtain ⟨⟨p0, p1, p2, p3⟩, fz, W9, hW9, g9, hb9⟩ := four_store HB.out.1 (.int .i64 x.L) (.slice ax L6.length kx) (.slice none 0 0) (.slice ay L11.length ky)
                have HW9 : Hid (W9 = _) := hW9
                have MB : Hid (BMid W1 x.L L6 L11 (.pointer (some ⟨Wd.heap.size, 0, none⟩)) W9) := BMid.b G13.out g9 HB.out.2.1 IX.out IY.out (fun y hy => ⟨(NX.out y hy).1, (NX.out y hy).2, K7.out y hy⟩) (fun y hy => ⟨(NY.out y hy).1, (NY.out y hy).2, K13.out y hy⟩) hb9
                have G9 : Hid (W1.grownBy W9 none) := grown_new G13.out g9 HB.out.2.1
                have f0 := fz 0
                have f1 := fz 1
                have f2 := fz 2
                have f3 := fz 3
                clear fz hW9 g9 hb9
                go_simp
                rw [← HW9.out]
                refine hK.out _ _ (S1.out.kept G9.out) (fun hHeld => ?_)
                clear hK K'
                try simp only [Act.put, List.getElem_toArray, List.getElem_cons_succ, List.getElem_cons_zero, List.setIfInBounds_toArray, List.set_cons_zero, List.set_cons_succ]
                refine wpAnyH_done (by kernel_rfl) ?_ _
                go_wp2_with fail
                go_meet
                case rel => exact MB.out
              exact AllReadyH.nil
            exact AllReadyH.nil
          exact AllReadyH.nil
        exact AllReadyH.nil
      refine AllReadyH.cons (o := _) rfl (fun K' hK => ?_) ?_
      · go_simp
        obtain ⟨V12, hV⟩ : ∃ W, W = V15.alloc (.cells #[.slice a3 an3 ac3, .slice b3 bn3 bc3] 22) := ⟨_, rfl⟩
        rw [← hV]
        have gV : Hid (V15.grownBy V12 none) := by show World.grownBy _ _ _; rw [hV]; exact grown_alloc _ _
        have G12 : Hid (W1.grownBy V12 none) := grown_trans G15.out gV.out
        have C12 : Hid (C2 V12 V15.heap.size (.slice a3 an3 ac3) (.slice b3 bn3 bc3)) := by show C2 _ _ _ _; rw [hV]; exact c2_new _ _ _ _
        have HB : Hid (V12.heap[Wd.heap.size]? = some (.cells #[.int .i64 0, .slice none 0 0, .slice none 0 0, .slice none 0 0] 25) ∧ W1.heap.size ≤ Wd.heap.size ∧ Wd.heap.size < V12.heap.size) := ⟨(gV.out.block _ HB.out.2.2 (by simp)).trans HB.out.1, HB.out.2.1, Nat.lt_of_lt_of_le HB.out.2.2 gV.out.size⟩
        clear hV gV
        refine hK.out _ _ (S1.out.kept G12.out) (fun hHeld => ?_)
        clear hK K'
        try simp only [Act.put, List.getElem_toArray, List.getElem_cons_succ, List.getElem_cons_zero, List.setIfInBounds_toArray, List.set_cons_zero, List.set_cons_succ]
        refine wpAnyH_ready (rs := [6]) (by kernel_rfl) (by simp) ?_
        refine AllReadyH.cons (o := _) rfl (fun K' hK => ?_) ?_
        · go_simp
          obtain ⟨V6, hV⟩ : ∃ W, W = V12.alloc (.cells #[.slice a1 an1 ac1, .slice b1 bn1 bc1] 22) := ⟨_, rfl⟩
          rw [← hV]
          have gV : Hid (V12.grownBy V6 none) := by show World.grownBy _ _ _; rw [hV]; exact grown_alloc _ _
          have G6 : Hid (W1.grownBy V6 none) := grown_trans G12.out gV.out
          have C6 : Hid (C2 V6 V12.heap.size (.slice a1 an1 ac1) (.slice b1 bn1 bc1)) := by show C2 _ _ _ _; rw [hV]; exact c2_new _ _ _ _
          have C12 : Hid (C2 V6 V15.heap.size (.slice a3 an3 ac3) (.slice b3 bn3 bc3)) := C12.out.kept gV.out
          have HB : Hid (V6.heap[Wd.heap.size]? = some (.cells #[.int .i64 0, .slice none 0 0, .slice none 0 0, .slice none 0 0] 25) ∧ W1.heap.size ≤ Wd.heap.size ∧ Wd.heap.size < V6.heap.size) := ⟨(gV.out.block _ HB.out.2.2 (by simp)).trans HB.out.1, HB.out.2.1, Nat.lt_of_lt_of_le HB.out.2.2 gV.out.size⟩
          clear hV gV
          refine hK.out _ _ (S1.out.kept G6.out) (fun hHeld => ?_)
          clear hK K'
          try simp only [Act.put, List.getElem_toArray, List.getElem_cons_succ, List.getElem_cons_zero, List.setIfInBounds_toArray, List.set_cons_zero, List.set_cons_succ]
          refine wpAnyH_ready (rs := [7]) (by kernel_rfl) (by simp) ?_
          refine AllReadyH.cons (o := _) rfl (fun K' hK => ?_) ?_
          · go_simp
            have HBS : Hid (Wd.heap.size < V6.heap.size) := HB.out.2.2
            refine (CTA.out _ _ G6.out C6.out).mono ?_
            rintro E V7 ⟨ax, kx, rfl, hix, hgx, hnx, hcx⟩
            have gV : Hid (V6.grownBy V7 none) := hgx
            have G7 : Hid (W1.grownBy V7 none) := grown_trans G6.out hgx
            have C12 : Hid (C2 V7 V15.heap.size (.slice a3 an3 ac3) (.slice b3 bn3 bc3)) := C12.out.kept gV.out
            have HB : Hid (V7.heap[Wd.heap.size]? = some (.cells #[.int .i64 0, .slice none 0 0, .slice none 0 0, .slice none 0 0] 25) ∧ W1.heap.size ≤ Wd.heap.size ∧ Wd.heap.size < V7.heap.size) := ⟨(gV.out.block _ HB.out.2.2 (by simp)).trans HB.out.1, HB.out.2.1, Nat.lt_of_lt_of_le HB.out.2.2 gV.out.size⟩
            have IX : Hid (Ints V7 ax L6) := hix
            have NX : Hid (∀ y, ax = some y → W1.heap.size ≤ y.block ∧ y.block < V7.heap.size) := fun y hy => ⟨Nat.le_trans G6.out.size (hnx y hy).1, (hnx y hy).2⟩
            have K7 : Hid (∀ y, ax = some y → y.block ≠ Wd.heap.size) := fun y hy => by have h1 := (hnx y hy).1; have h2 := HBS.out; omega
            clear hix hgx hnx hcx gV
            go_wp2_with fail
            refine hK.out _ _ (S1.out.kept G7.out) (fun hHeld => ?_)
            clear hK K'
            try simp only [Act.put, List.getElem_toArray, List.getElem_cons_succ, List.getElem_cons_zero, List.setIfInBounds_toArray, List.set_cons_zero, List.set_cons_succ]
            refine wpAnyH_ready (rs := [13]) (by kernel_rfl) (by simp) ?_
            refine AllReadyH.cons (o := _) rfl (fun K' hK => ?_) ?_
            · go_simp
              have HBS : Hid (Wd.heap.size < V7.heap.size) := HB.out.2.2
              refine (CTB.out _ _ G7.out C12.out).mono ?_
              rintro E V13 ⟨ay, ky, rfl, hix, hgx, hnx, hcx⟩
              have gV : Hid (V7.grownBy V13 none) := hgx
              have G13 : Hid (W1.grownBy V13 none) := grown_trans G7.out hgx
              have IX : Hid (Ints V13 ax L6) := IX.out.grown gV.out
              have NX : Hid (∀ y, ax = some y → W1.heap.size ≤ y.block ∧ y.block < V13.heap.size) := fun y hy => ⟨(NX.out y hy).1, Nat.lt_of_lt_of_le (NX.out y hy).2 gV.out.size⟩
              have HB : Hid (V13.heap[Wd.heap.size]? = some (.cells #[.int .i64 0, .slice none 0 0, .slice none 0 0, .slice none 0 0] 25) ∧ W1.heap.size ≤ Wd.heap.size ∧ Wd.heap.size < V13.heap.size) := ⟨(gV.out.block _ HB.out.2.2 (by simp)).trans HB.out.1, HB.out.2.1, Nat.lt_of_lt_of_le HB.out.2.2 gV.out.size⟩
              have IY : Hid (Ints V13 ay L11) := hix
              have NY : Hid (∀ y, ay = some y → W1.heap.size ≤ y.block ∧ y.block < V13.heap.size) := fun y hy => ⟨Nat.le_trans G7.out.size (hnx y hy).1, (hnx y hy).2⟩
              have K13 : Hid (∀ y, ay = some y → y.block ≠ Wd.heap.size) := fun y hy => by have h1 := (hnx y hy).1; have h2 := HBS.out; omega
              clear hix hgx hnx hcx gV
              go_wp2_with fail
              refine hK.out _ _ (S1.out.kept G13.out) (fun hHeld => ?_)
              clear hK K'
              try simp only [Act.put, List.getElem_toArray, List.getElem_cons_succ, List.getElem_cons_zero, List.setIfInBounds_toArray, List.set_cons_zero, List.set_cons_succ]
              refine wpAnyH_take (i := 14) (v := ?_) rfl (by kernel_rfl) (by kernel_rfl) (by kernel_rfl) (fun _ _ _ h => h) (Or.inl ⟨by rfl, ?_⟩) (by assumption) ?_
              rotate_left
              · intro W hSw
                obtain ⟨q0, q1, q2, q3, q4⟩ := hSw
                go_simp
                with_reducible rfl
              try simp only [Act.put, List.getElem_toArray, List.getElem_cons_succ, List.getElem_cons_zero, List.setIfInBounds_toArray, List.set_cons_zero, List.set_cons_succ]
              refine wpAnyH_ready (rs := [16]) (by kernel_rfl) (by simp) ?_
              refine AllReadyH.cons (o := _) rfl (fun K' hK => ?_) ?_
              · obtain ⟨⟨p0, p1, p2, p3⟩, fz, W9, hW9, g9, hb9⟩ := four_store HB.out.1 (.int .i64 x.L) (.slice ax L6.length kx) (.slice none 0 0) (.slice ay L11.length ky)
                have HW9 : Hid (W9 = _) := hW9
                have MB : Hid (BMid W1 x.L L6 L11 (.pointer (some ⟨Wd.heap.size, 0, none⟩)) W9) := BMid.b G13.out g9 HB.out.2.1 IX.out IY.out (fun y hy => ⟨(NX.out y hy).1, (NX.out y hy).2, K7.out y hy⟩) (fun y hy => ⟨(NY.out y hy).1, (NY.out y hy).2, K13.out y hy⟩) hb9
                have G9 : Hid (W1.grownBy W9 none) := grown_new G13.out g9 HB.out.2.1
                have f0 := fz 0
                have f1 := fz 1
                have f2 := fz 2
                have f3 := fz 3
                clear fz hW9 g9 hb9
                go_simp
                rw [← HW9.out]
                refine hK.out _ _ (S1.out.kept G9.out) (fun hHeld => ?_)
                clear hK K'
                try simp only [Act.put, List.getElem_toArray, List.getElem_cons_succ, List.getElem_cons_zero, List.setIfInBounds_toArray, List.set_cons_zero, List.set_cons_succ]
                refine wpAnyH_done (by kernel_rfl) ?_ _
                go_wp2_with fail
                go_meet
                case rel => exact MB.out
              exact AllReadyH.nil
            exact AllReadyH.nil
          exact AllReadyH.nil
        exact AllReadyH.nil
      exact AllReadyH.nil
    exact AllReadyH.nil
  case rest =>
    clear CTA CTB S1
    rename World => wc
    obtain ⟨k5, aF, cF, aE, cE, rfl, hbx, hk5, iF, iE, nF, nE, hgc⟩ := hcut
    have HWC : Hid (W1.grownBy wc none) := hgc
    have HKL : Hid (k5 < wc.heap.size) := (Array.getElem?_eq_some_iff.1 hbx.heap).1
    have HNF : Hid ((∀ y, aF = some y → W1.heap.size ≤ y.block ∧ y.block < wc.heap.size ∧ y.block ≠ k5) ∧ (∀ y, aE = some y → W1.heap.size ≤ y.block ∧ y.block < wc.heap.size ∧ y.block ≠ k5) ∧ W1.heap.size ≤ k5) := ⟨nF, nE, hk5⟩
    obtain ⟨B, hB⟩ : ∃ B, wc.heap.size = B := ⟨_, rfl⟩
    rw [hB] at HKL HNF
    have HB1 : Hid (W1.heap.size ≤ B ∧ B ≤ wc.heap.size) := ⟨by rw [← hB]; exact hgc.size, Nat.le_of_eq hB.symm⟩
    have H0 : Hid (BeSt B k5 W1 x y L6 L11 aF cF aE cE 0 none 0 [] wc) := ⟨hbx, StepO.nil, rfl, rfl, iF, iE, hgc, HB1.out.2⟩
    have x0 := (BX.out wc hgc).b0
    have hp8 := HG.out.1.size.2
    have hq8 := HG.out.2.1.size.2
    obtain ⟨p, hp⟩ : ∃ p, x.F.length = p := ⟨_, rfl⟩
    obtain ⟨q, hq⟩ : ∃ q, y.F.length = q := ⟨_, rfl⟩
    have HPQ : Hid (x.F.length = p ∧ y.F.length = q) := ⟨hp, hq⟩
    rw [hp] at hp8
    rw [hq] at hq8
    have HA4 : Hid (an2 ≤ 4) := by have h1 := HG.out.1.let_.2; have h2 := HG.out.2.2.2.2.2; show _ ≤ _; omega
    clear hbx hk5 iF iE nF nE hgc hB hp hq
    go_wp2_with fail
    clear x0
    go_loopw [24] (fun v W => ∃ (l : Nat) (aS : Option Addr) (cS : Nat) (ts : List Tbl), v = .int .i64 l ∧ l ≤ an2 ∧ BeSt B k5 W1 x y L6 L11 aF cF aE cE l aS cS ts W) (fun v _ => an2 - (intOf v).toNat)
    case atStart => exact ⟨0, none, 0, [], rfl, Nat.zero_le _, H0.out⟩
    case round =>
      clear H0
      obtain ⟨wl, hwl⟩ : ∃ W, W = wr := ⟨_, rfl⟩
      subst hwl
      obtain ⟨l, aS, cS, ts, rfl, hl, hst⟩ := hrel
      have HS : Hid (BeSt B k5 W1 x y L6 L11 aF cF aE cE l aS cS ts wl) := hst
      clear hst
      by_cases hll : l < an2
      · have i1 : (l : Int) < x.L := by have := HG.out.2.2.2.2.2; omega
        have i2 : (l : Int) < (an2 : Int) := by omega
        have i3 : (l : Int) < (bn2 : Int) := by have := HG.out.2.2.2.2.1; omega
        have hlx : l < x.S.length := by rw [HG.out.2.2.1]; exact hll
        have hly : l < y.S.length := by rw [HG.out.2.2.2.1]; exact hll
        obtain ⟨b4, o4, ha2, hc4⟩ := (HTX.out W1 (grown_refl _ _)).step.at hlx
        obtain ⟨r4, k4, c4, hr4, hm4⟩ := hc4 l hlx
        obtain ⟨b6, o6, hb2, hc6⟩ := (HTY.out W1 (grown_refl _ _)).step.at hly
        obtain ⟨r6, k6, c6, hr6, hm6⟩ := hc6 l hly
        have shx := HG.out.1.shape.2.2 _ (tabW_mem hlx)
        have shy := HG.out.2.1.shape.2.2 _ (tabW_mem hly)
        obtain ⟨T1, hT1⟩ : ∃ T, tabW x l = T := ⟨_, rfl⟩
        obtain ⟨T2, hT2⟩ : ∃ T, tabW y l = T := ⟨_, rfl⟩
        have eT1 : x.S.getD l [] = T1 := hT1
        have eT2 : y.S.getD l [] = T2 := hT2
        rw [hT1, HPQ.out.1] at shx
        rw [hT2, HPQ.out.2] at shy
        rw [eT1] at c4 hr4 hm4
        rw [eT2] at c6 hr6 hm6
        rw [shx.1] at c4
        rw [shy.1] at c6
        obtain ⟨TB, hTB⟩ : ∃ T, besT T1 T2 = T := ⟨_, rfl⟩
        have HTB : Hid (besT (tabW x l) (tabW y l) = TB ∧ TB.length ≤ 1000) := ⟨by rw [hT1, hT2, hTB], by rw [← hTB]; unfold besT; rw [List.length_append, List.length_map, List.length_map, shx.1, shy.1]; omega⟩
        have HC : Hid (∀ W, W1.grownBy W none → Calls Try.prog 22 #[.slice r4 p k4, .slice r6 q k6] W (TabP TB W)) := fun W hW => hTB ▸ tableBeside_any T1 T2 r4 r6 p q k4 k6 W (hr4.grown hW) (hr6.grown hW) shx.1 shy.1 (by omega) (by omega) (fun r hr => by rw [shx.2 r hr]; omega) (fun r hr => by rw [shy.2 r hr]; omega)
        have S5 : Hid (SBs w.heap.size (.slice a2 an2 ac2) (.slice b2 bn2 bc2) b4 (o4 + l) (.slice r4 p k4) b6 (o6 + l) (.slice r6 q k6) W1) := ⟨(BX.out W1 (grown_refl _ _)).b2, (BY.out W1 (grown_refl _ _)).b2, c4, c6⟩
        subst ha2 hb2
        clear hc4 hm4 hc6 hm6 shx shy hT1 hT2 eT1 eT2 hr4 hr6 hlx hly hTB c4 c6
        go_wp2_with fail
        refine wp_region_held_drew (S := SBs w.heap.size (.slice (some ⟨b4, o4, none⟩) an2 ac2) (.slice (some ⟨b6, o6, none⟩) bn2 bc2) b4 (o4 + l) (.slice r4 p k4) b6 (o6 + l) (.slice r6 q k6)) (by kernel_rfl) (S5.out.kept (grown_trans HS.out.gr (grown_drew (grown_refl _ _)))) (fun hHeld => ?_)
        obtain ⟨We, hWe⟩ : ∃ W, W = wl.drew := ⟨_, rfl⟩
        rw [← hWe] at hHeld ⊢
        have gle : Hid (wl.grownBy We none) := by show World.grownBy _ _ _; rw [hWe]; exact grown_drew (grown_refl _ _)
        have Ge : Hid (W1.grownBy We none) := grown_trans HS.out.gr gle.out
        have c52 : We.cell? ⟨k5, 2, none⟩ = some (.slice aS l cS) := gle.out.cell HS.out.box.box.1.b2 (by simp)
        clear hWe
        refine wpAnyH_take (i := 0) (v := ?_) rfl (by kernel_rfl) (by kernel_rfl) (by kernel_rfl) (fun _ _ _ h => h) (Or.inl ⟨by rfl, ?_⟩) (by assumption) ?_
        rotate_left
        · intro W hSw
          obtain ⟨q0, q1, q2, q3⟩ := hSw
          go_simp
          with_reducible rfl
        try simp only [Act.put, List.getElem_toArray, List.getElem_cons_succ, List.getElem_cons_zero, List.setIfInBounds_toArray, List.set_cons_zero, List.set_cons_succ]
        refine wpAnyH_take (i := 2) (v := ?_) rfl (by kernel_rfl) (by kernel_rfl) (by kernel_rfl) (fun _ _ _ h => h) (Or.inl ⟨by rfl, ?_⟩) (by assumption) ?_
        rotate_left
        · intro W hSw
          obtain ⟨q0, q1, q2, q3⟩ := hSw
          go_simp
          with_reducible rfl
        try simp only [Act.put, List.getElem_toArray, List.getElem_cons_succ, List.getElem_cons_zero, List.setIfInBounds_toArray, List.set_cons_zero, List.set_cons_succ]
        refine wpAnyH_take (i := 3) (v := ?_) rfl (by kernel_rfl) (by kernel_rfl) (by kernel_rfl) (fun _ _ _ h => h) (Or.inl ⟨by rfl, ?_⟩) (by assumption) ?_
        rotate_left
        · intro W hSw
          obtain ⟨q0, q1, q2, q3⟩ := hSw
          go_simp
          with_reducible rfl
        try simp only [Act.put, List.getElem_toArray, List.getElem_cons_succ, List.getElem_cons_zero, List.setIfInBounds_toArray, List.set_cons_zero, List.set_cons_succ]
        refine wpAnyH_take (i := 4) (v := ?_) rfl (by kernel_rfl) (by kernel_rfl) (by kernel_rfl) (fun _ _ _ h => h) (Or.inl ⟨by rfl, ?_⟩) (by assumption) ?_
        rotate_left
        · intro W hSw
          obtain ⟨q0, q1, q2, q3⟩ := hSw
          go_simp
          with_reducible rfl
        try simp only [Act.put, List.getElem_toArray, List.getElem_cons_succ, List.getElem_cons_zero, List.setIfInBounds_toArray, List.set_cons_zero, List.set_cons_succ]
        refine wpAnyH_take (i := 5) (v := ?_) rfl (by kernel_rfl) (by kernel_rfl) (by kernel_rfl) (fun _ _ _ h => h) (Or.inl ⟨by rfl, ?_⟩) (by assumption) ?_
        rotate_left
        · intro W hSw
          obtain ⟨q0, q1, q2, q3⟩ := hSw
          go_simp
          with_reducible rfl
        try simp only [Act.put, List.getElem_toArray, List.getElem_cons_succ, List.getElem_cons_zero, List.setIfInBounds_toArray, List.set_cons_zero, List.set_cons_succ]
        refine wpAnyH_take (i := 6) (v := ?_) rfl (by kernel_rfl) (by kernel_rfl) (by kernel_rfl) (fun _ _ _ h => h) (Or.inl ⟨by rfl, ?_⟩) (by assumption) ?_
        rotate_left
        · intro W hSw
          obtain ⟨q0, q1, q2, q3⟩ := hSw
          go_simp
          with_reducible rfl
        try simp only [Act.put, List.getElem_toArray, List.getElem_cons_succ, List.getElem_cons_zero, List.setIfInBounds_toArray, List.set_cons_zero, List.set_cons_succ]
        refine wpAnyH_take (i := 7) (v := ?_) rfl (by kernel_rfl) (by kernel_rfl) (by kernel_rfl) (fun _ _ _ h => h) (Or.inl ⟨by rfl, ?_⟩) (by assumption) ?_
        rotate_left
        · intro W hSw
          obtain ⟨q0, q1, q2, q3⟩ := hSw
          go_simp
          with_reducible rfl
        try simp only [Act.put, List.getElem_toArray, List.getElem_cons_succ, List.getElem_cons_zero, List.setIfInBounds_toArray, List.set_cons_zero, List.set_cons_succ]
        refine wpAnyH_take (i := 8) (v := ?_) rfl (by kernel_rfl) (by kernel_rfl) (by kernel_rfl) (fun _ _ _ h => h) (Or.inl ⟨by rfl, ?_⟩) (by assumption) ?_
        rotate_left
        · intro W hSw
          obtain ⟨q0, q1, q2, q3⟩ := hSw
          go_simp
          with_reducible rfl
        try simp only [Act.put, List.getElem_toArray, List.getElem_cons_succ, List.getElem_cons_zero, List.setIfInBounds_toArray, List.set_cons_zero, List.set_cons_succ]
        refine wpAnyH_take (i := 9) (v := ?_) rfl (by kernel_rfl) (by kernel_rfl) (by kernel_rfl) (fun _ _ _ h => h) (Or.inl ⟨by rfl, ?_⟩) (by assumption) ?_
        rotate_left
        · intro W hSw
          obtain ⟨q0, q1, q2, q3⟩ := hSw
          go_simp
          with_reducible rfl
        try simp only [Act.put, List.getElem_toArray, List.getElem_cons_succ, List.getElem_cons_zero, List.setIfInBounds_toArray, List.set_cons_zero, List.set_cons_succ]
        refine wpAnyH_take (i := 10) (v := ?_) rfl (by kernel_rfl) (by kernel_rfl) (by kernel_rfl) (fun _ _ _ h => h) (Or.inl ⟨by rfl, ?_⟩) (by assumption) ?_
        rotate_left
        · intro W hSw
          obtain ⟨q0, q1, q2, q3⟩ := hSw
          go_simp
          with_reducible rfl
        try simp only [Act.put, List.getElem_toArray, List.getElem_cons_succ, List.getElem_cons_zero, List.setIfInBounds_toArray, List.set_cons_zero, List.set_cons_succ]
        refine wpAnyH_take (i := 11) (v := ?_) rfl (by kernel_rfl) (by kernel_rfl) (by kernel_rfl) (fun _ _ _ h => h) (Or.inl ⟨by rfl, ?_⟩) (by assumption) ?_
        rotate_left
        · intro W hSw
          obtain ⟨q0, q1, q2, q3⟩ := hSw
          go_simp
          with_reducible rfl
        try simp only [Act.put, List.getElem_toArray, List.getElem_cons_succ, List.getElem_cons_zero, List.setIfInBounds_toArray, List.set_cons_zero, List.set_cons_succ]
        refine wpAnyH_ready (rs := [1, 12]) (by kernel_rfl) (by simp) ?_
        refine AllReadyH.cons (o := _) rfl (fun K' hK => ?_) ?_
        · go_simp
          refine hK.out _ _ (S5.out.kept Ge.out) (fun hHeld => ?_)
          clear hK K'
          try simp only [Act.put, List.getElem_toArray, List.getElem_cons_succ, List.getElem_cons_zero, List.setIfInBounds_toArray, List.set_cons_zero, List.set_cons_succ]
          refine wpAnyH_ready (rs := [12]) (by kernel_rfl) (by simp) ?_
          refine AllReadyH.cons (o := _) rfl (fun K' hK => ?_) ?_
          · go_simp
            refine (HC.out We Ge.out).mono ?_
            rintro E V12 ⟨a9, c9, ps9, rfl, ho9, hw9, hg9⟩
            have gl12 : Hid (wl.grownBy V12 none) := grown_trans gle.out hg9
            have G12 : Hid (W1.grownBy V12 none) := grown_trans Ge.out hg9
            have HR9 : Hid (RowsO We.heap.size V12.heap.size V12 a9 c9 ps9 ∧ wdL ps9 = TB) := ⟨ho9, hw9⟩
            have c52 : V12.cell? ⟨k5, 2, none⟩ = some (.slice aS l cS) := gl12.out.cell HS.out.box.box.1.b2 (by simp)
            clear ho9 hw9 hg9
            go_wp2_with fail
            refine hK.out _ _ (S5.out.kept G12.out) (fun hHeld => ?_)
            clear hK K'
            try simp only [Act.put, List.getElem_toArray, List.getElem_cons_succ, List.getElem_cons_zero, List.setIfInBounds_toArray, List.set_cons_zero, List.set_cons_succ]
            refine wpAnyH_ready (rs := [13]) (by kernel_rfl) (by simp) ?_
            refine AllReadyH.cons (o := _) rfl (fun K' hK => ?_) ?_
            · go_simp
              obtain ⟨V13, hV⟩ : ∃ W, W = V12.alloc (.cells #[.slice a9 TB.length c9] 37) := ⟨_, rfl⟩
              rw [← hV]
              have HV13 : Hid (V13 = V12.alloc (.cells #[.slice a9 TB.length c9] 37)) := hV
              have gV : Hid (V12.grownBy V13 none) := by show World.grownBy _ _ _; rw [hV]; exact grown_alloc _ _
              have G13 : Hid (W1.grownBy V13 none) := grown_trans G12.out gV.out
              have c52 : V13.cell? ⟨k5, 2, none⟩ = some (.slice aS l cS) := (grown_trans gl12.out gV.out).cell HS.out.box.box.1.b2 (by simp)
              clear hV
              refine hK.out _ _ (S5.out.kept G13.out) (fun hHeld => ?_)
              clear hK K'
              try simp only [Act.put, List.getElem_toArray, List.getElem_cons_succ, List.getElem_cons_zero, List.setIfInBounds_toArray, List.set_cons_zero, List.set_cons_succ]
              refine wpAnyH_ready (rs := [14]) (by kernel_rfl) (by simp) ?_
              refine AllReadyH.cons (o := _) rfl (fun K' hK => ?_) ?_
              · have hpl : ps9.length = TB.length := by rw [← wdL_len, HR9.out.2]
                obtain ⟨a8, c8, V14, hrun, hs8, hf8, hk8, hz8, hg8⟩ := HS.out.step.one HS.out.len (by have := HA4.out; omega) HS.out.sz gl12.out ⟨We.heap.size, V12.heap.size, a9, c9, ps9⟩ HR9.out.1 gle.out.size (Nat.le_refl _) (by show ps9.length ≤ 1000; rw [hpl]; exact HTB.out.2)
                simp only [tbV, hpl] at hrun
                rw [← HV13.out] at hrun
                have G14 : Hid (W1.grownBy V14 none) := hf8 W1 HB1.out.1 G12.out
                have hb8 : BxW V14 k5 x.L aF L6.length cF aS l cS aE L11.length cE := ⟨hk8 k5 _ HKL.out ((gl12.out.block k5 (by have := HKL.out; have := HS.out.sz; omega) (by simp)).trans HS.out.box.heap)⟩
                have x8 := hb8.box.1.b2
                have f8 := hb8.box.2 2
                have hfar : ∀ (a0 : Option Addr) (us : List Int), Ints wl a0 us → (∀ y, a0 = some y → W1.heap.size ≤ y.block ∧ y.block < B ∧ y.block ≠ k5) → Ints (V14.setCell ⟨k5, 2, none⟩ (.slice a8 (l + 1) c8)) a0 us := fun a0 us hi0 hn0 => by
                  have h1 := hi0.grown gl12.out
                  have h2 : Ints V14 a0 us := by
                    cases hob : (Value.slice aS l cS).ownBlock with
                    | none => rw [hob] at hg8; exact h1.grown hg8
                    | some g =>
                      rw [hob] at hg8
                      have hBg := (HS.out.step.own.lt g (by rw [HS.out.len]; exact hob)).1
                      exact intsN_far h1 (fun _ y hy => by have := hn0 y hy; omega) hg8
                  exact intsN_far h2 (fun _ y hy => (hn0 y hy).2.2) (grown_set _ _ _)
                have HS9 : Hid (BeSt B k5 W1 x y L6 L11 aF cF aE cE (l + 1) a8 c8 (ts ++ [⟨We.heap.size, V12.heap.size, a9, c9, ps9⟩]) (V14.setCell ⟨k5, 2, none⟩ (.slice a8 (l + 1) c8))) := by
                  refine ⟨hb8.step _ _ _, hs8.below (grown_set _ _ _) HKL.out, by rw [List.length_append, HS.out.len]; rfl, ?_, hfar _ _ HS.out.iF HNF.out.1, hfar _ _ HS.out.iE HNF.out.2.1, grown_new G14.out (grown_set _ _ _) HNF.out.2.2, ?_⟩
                  · rw [List.range_succ, List.map_append, ← HS.out.val]
                    simp [tbL, HR9.out.2, ← HTB.out.1]
                  · have h1 := HS.out.sz
                    have h2 := gl12.out.size
                    have h3 : (V14.setCell ⟨k5, 2, none⟩ (.slice a8 (l + 1) c8)).heap.size = V14.heap.size := by simp
                    omega
                have G15 : Hid (W1.grownBy (V14.setCell ⟨k5, 2, none⟩ (.slice a8 (l + 1) c8)) none) := grown_new G14.out (grown_set _ _ _) HNF.out.2.2
                clear hs8 hf8 hk8 hz8 hg8 hb8 hfar hpl
                go_simp
                refine hK.out _ _ (S5.out.kept G14.out) (fun hHeld => ?_)
                clear hK K'
                try simp only [Act.put, List.getElem_toArray, List.getElem_cons_succ, List.getElem_cons_zero, List.setIfInBounds_toArray, List.set_cons_zero, List.set_cons_succ]
                refine wpAnyH_take (i := 15) (v := ?_) rfl (by kernel_rfl) (by kernel_rfl) (by kernel_rfl) (fun _ _ _ h => h) (Or.inl ⟨by rfl, ?_⟩) (by assumption) ?_
                rotate_left
                · intro W hSw
                  obtain ⟨q0, q1, q2, q3⟩ := hSw
                  go_simp
                  with_reducible rfl
                try simp only [Act.put, List.getElem_toArray, List.getElem_cons_succ, List.getElem_cons_zero, List.setIfInBounds_toArray, List.set_cons_zero, List.set_cons_succ]
                refine wpAnyH_ready (rs := [16]) (by kernel_rfl) (by simp) ?_
                refine AllReadyH.cons (o := _) rfl (fun K' hK => ?_) ?_
                · go_simp
                  refine hK.out _ _ (S5.out.kept G15.out) (fun hHeld => ?_)
                  clear hK K'
                  try simp only [Act.put, List.getElem_toArray, List.getElem_cons_succ, List.getElem_cons_zero, List.setIfInBounds_toArray, List.set_cons_zero, List.set_cons_succ]
                  refine wpAnyH_done (by kernel_rfl) ?_ _
                  have i7 : an2 ≤ 4 := HA4.out
                  go_wp2_with fail
                  go_roundw
                  case rel => exact ⟨l + 1, a8, c8, _, by go_num, by omega, HS9.out⟩
                  case measure => simp [intOf]; omega
                exact AllReadyH.nil
              exact AllReadyH.nil
            exact AllReadyH.nil
          exact AllReadyH.nil
        refine AllReadyH.cons (o := _) rfl (fun K' hK => ?_) ?_
        · go_simp
          refine (HC.out We Ge.out).mono ?_
          rintro E V12 ⟨a9, c9, ps9, rfl, ho9, hw9, hg9⟩
          have gl12 : Hid (wl.grownBy V12 none) := grown_trans gle.out hg9
          have G12 : Hid (W1.grownBy V12 none) := grown_trans Ge.out hg9
          have HR9 : Hid (RowsO We.heap.size V12.heap.size V12 a9 c9 ps9 ∧ wdL ps9 = TB) := ⟨ho9, hw9⟩
          have c52 : V12.cell? ⟨k5, 2, none⟩ = some (.slice aS l cS) := gl12.out.cell HS.out.box.box.1.b2 (by simp)
          clear ho9 hw9 hg9
          go_wp2_with fail
          refine hK.out _ _ (S5.out.kept G12.out) (fun hHeld => ?_)
          clear hK K'
          try simp only [Act.put, List.getElem_toArray, List.getElem_cons_succ, List.getElem_cons_zero, List.setIfInBounds_toArray, List.set_cons_zero, List.set_cons_succ]
          refine wpAnyH_ready (rs := [1, 13]) (by kernel_rfl) (by simp) ?_
          refine AllReadyH.cons (o := _) rfl (fun K' hK => ?_) ?_
          · go_simp
            refine hK.out _ _ (S5.out.kept G12.out) (fun hHeld => ?_)
            clear hK K'
            try simp only [Act.put, List.getElem_toArray, List.getElem_cons_succ, List.getElem_cons_zero, List.setIfInBounds_toArray, List.set_cons_zero, List.set_cons_succ]
            refine wpAnyH_ready (rs := [13]) (by kernel_rfl) (by simp) ?_
            refine AllReadyH.cons (o := _) rfl (fun K' hK => ?_) ?_
            · go_simp
              obtain ⟨V13, hV⟩ : ∃ W, W = V12.alloc (.cells #[.slice a9 TB.length c9] 37) := ⟨_, rfl⟩
              rw [← hV]
              have HV13 : Hid (V13 = V12.alloc (.cells #[.slice a9 TB.length c9] 37)) := hV
              have gV : Hid (V12.grownBy V13 none) := by show World.grownBy _ _ _; rw [hV]; exact grown_alloc _ _
              have G13 : Hid (W1.grownBy V13 none) := grown_trans G12.out gV.out
              have c52 : V13.cell? ⟨k5, 2, none⟩ = some (.slice aS l cS) := (grown_trans gl12.out gV.out).cell HS.out.box.box.1.b2 (by simp)
              clear hV
              refine hK.out _ _ (S5.out.kept G13.out) (fun hHeld => ?_)
              clear hK K'
              try simp only [Act.put, List.getElem_toArray, List.getElem_cons_succ, List.getElem_cons_zero, List.setIfInBounds_toArray, List.set_cons_zero, List.set_cons_succ]
              refine wpAnyH_ready (rs := [14]) (by kernel_rfl) (by simp) ?_
              refine AllReadyH.cons (o := _) rfl (fun K' hK => ?_) ?_
              · have hpl : ps9.length = TB.length := by rw [← wdL_len, HR9.out.2]
                obtain ⟨a8, c8, V14, hrun, hs8, hf8, hk8, hz8, hg8⟩ := HS.out.step.one HS.out.len (by have := HA4.out; omega) HS.out.sz gl12.out ⟨We.heap.size, V12.heap.size, a9, c9, ps9⟩ HR9.out.1 gle.out.size (Nat.le_refl _) (by show ps9.length ≤ 1000; rw [hpl]; exact HTB.out.2)
                simp only [tbV, hpl] at hrun
                rw [← HV13.out] at hrun
                have G14 : Hid (W1.grownBy V14 none) := hf8 W1 HB1.out.1 G12.out
                have hb8 : BxW V14 k5 x.L aF L6.length cF aS l cS aE L11.length cE := ⟨hk8 k5 _ HKL.out ((gl12.out.block k5 (by have := HKL.out; have := HS.out.sz; omega) (by simp)).trans HS.out.box.heap)⟩
                have x8 := hb8.box.1.b2
                have f8 := hb8.box.2 2
                have hfar : ∀ (a0 : Option Addr) (us : List Int), Ints wl a0 us → (∀ y, a0 = some y → W1.heap.size ≤ y.block ∧ y.block < B ∧ y.block ≠ k5) → Ints (V14.setCell ⟨k5, 2, none⟩ (.slice a8 (l + 1) c8)) a0 us := fun a0 us hi0 hn0 => by
                  have h1 := hi0.grown gl12.out
                  have h2 : Ints V14 a0 us := by
                    cases hob : (Value.slice aS l cS).ownBlock with
                    | none => rw [hob] at hg8; exact h1.grown hg8
                    | some g =>
                      rw [hob] at hg8
                      have hBg := (HS.out.step.own.lt g (by rw [HS.out.len]; exact hob)).1
                      exact intsN_far h1 (fun _ y hy => by have := hn0 y hy; omega) hg8
                  exact intsN_far h2 (fun _ y hy => (hn0 y hy).2.2) (grown_set _ _ _)
                have HS9 : Hid (BeSt B k5 W1 x y L6 L11 aF cF aE cE (l + 1) a8 c8 (ts ++ [⟨We.heap.size, V12.heap.size, a9, c9, ps9⟩]) (V14.setCell ⟨k5, 2, none⟩ (.slice a8 (l + 1) c8))) := by
                  refine ⟨hb8.step _ _ _, hs8.below (grown_set _ _ _) HKL.out, by rw [List.length_append, HS.out.len]; rfl, ?_, hfar _ _ HS.out.iF HNF.out.1, hfar _ _ HS.out.iE HNF.out.2.1, grown_new G14.out (grown_set _ _ _) HNF.out.2.2, ?_⟩
                  · rw [List.range_succ, List.map_append, ← HS.out.val]
                    simp [tbL, HR9.out.2, ← HTB.out.1]
                  · have h1 := HS.out.sz
                    have h2 := gl12.out.size
                    have h3 : (V14.setCell ⟨k5, 2, none⟩ (.slice a8 (l + 1) c8)).heap.size = V14.heap.size := by simp
                    omega
                have G15 : Hid (W1.grownBy (V14.setCell ⟨k5, 2, none⟩ (.slice a8 (l + 1) c8)) none) := grown_new G14.out (grown_set _ _ _) HNF.out.2.2
                clear hs8 hf8 hk8 hz8 hg8 hb8 hfar hpl
                go_simp
                refine hK.out _ _ (S5.out.kept G14.out) (fun hHeld => ?_)
                clear hK K'
                try simp only [Act.put, List.getElem_toArray, List.getElem_cons_succ, List.getElem_cons_zero, List.setIfInBounds_toArray, List.set_cons_zero, List.set_cons_succ]
                refine wpAnyH_take (i := 15) (v := ?_) rfl (by kernel_rfl) (by kernel_rfl) (by kernel_rfl) (fun _ _ _ h => h) (Or.inl ⟨by rfl, ?_⟩) (by assumption) ?_
                rotate_left
                · intro W hSw
                  obtain ⟨q0, q1, q2, q3⟩ := hSw
                  go_simp
                  with_reducible rfl
                try simp only [Act.put, List.getElem_toArray, List.getElem_cons_succ, List.getElem_cons_zero, List.setIfInBounds_toArray, List.set_cons_zero, List.set_cons_succ]
                refine wpAnyH_ready (rs := [16]) (by kernel_rfl) (by simp) ?_
                refine AllReadyH.cons (o := _) rfl (fun K' hK => ?_) ?_
                · go_simp
                  refine hK.out _ _ (S5.out.kept G15.out) (fun hHeld => ?_)
                  clear hK K'
                  try simp only [Act.put, List.getElem_toArray, List.getElem_cons_succ, List.getElem_cons_zero, List.setIfInBounds_toArray, List.set_cons_zero, List.set_cons_succ]
                  refine wpAnyH_done (by kernel_rfl) ?_ _
                  have i7 : an2 ≤ 4 := HA4.out
                  go_wp2_with fail
                  go_roundw
                  case rel => exact ⟨l + 1, a8, c8, _, by go_num, by omega, HS9.out⟩
                  case measure => simp [intOf]; omega
                exact AllReadyH.nil
              exact AllReadyH.nil
            exact AllReadyH.nil
          refine AllReadyH.cons (o := _) rfl (fun K' hK => ?_) ?_
          · go_simp
            obtain ⟨V13, hV⟩ : ∃ W, W = V12.alloc (.cells #[.slice a9 TB.length c9] 37) := ⟨_, rfl⟩
            rw [← hV]
            have HV13 : Hid (V13 = V12.alloc (.cells #[.slice a9 TB.length c9] 37)) := hV
            have gV : Hid (V12.grownBy V13 none) := by show World.grownBy _ _ _; rw [hV]; exact grown_alloc _ _
            have G13 : Hid (W1.grownBy V13 none) := grown_trans G12.out gV.out
            have c52 : V13.cell? ⟨k5, 2, none⟩ = some (.slice aS l cS) := (grown_trans gl12.out gV.out).cell HS.out.box.box.1.b2 (by simp)
            clear hV
            refine hK.out _ _ (S5.out.kept G13.out) (fun hHeld => ?_)
            clear hK K'
            try simp only [Act.put, List.getElem_toArray, List.getElem_cons_succ, List.getElem_cons_zero, List.setIfInBounds_toArray, List.set_cons_zero, List.set_cons_succ]
            refine wpAnyH_ready (rs := [1]) (by kernel_rfl) (by simp) ?_
            refine AllReadyH.cons (o := _) rfl (fun K' hK => ?_) ?_
            · go_simp
              refine hK.out _ _ (S5.out.kept G13.out) (fun hHeld => ?_)
              clear hK K'
              try simp only [Act.put, List.getElem_toArray, List.getElem_cons_succ, List.getElem_cons_zero, List.setIfInBounds_toArray, List.set_cons_zero, List.set_cons_succ]
              refine wpAnyH_ready (rs := [14]) (by kernel_rfl) (by simp) ?_
              refine AllReadyH.cons (o := _) rfl (fun K' hK => ?_) ?_
              · have hpl : ps9.length = TB.length := by rw [← wdL_len, HR9.out.2]
                obtain ⟨a8, c8, V14, hrun, hs8, hf8, hk8, hz8, hg8⟩ := HS.out.step.one HS.out.len (by have := HA4.out; omega) HS.out.sz gl12.out ⟨We.heap.size, V12.heap.size, a9, c9, ps9⟩ HR9.out.1 gle.out.size (Nat.le_refl _) (by show ps9.length ≤ 1000; rw [hpl]; exact HTB.out.2)
                simp only [tbV, hpl] at hrun
                rw [← HV13.out] at hrun
                have G14 : Hid (W1.grownBy V14 none) := hf8 W1 HB1.out.1 G12.out
                have hb8 : BxW V14 k5 x.L aF L6.length cF aS l cS aE L11.length cE := ⟨hk8 k5 _ HKL.out ((gl12.out.block k5 (by have := HKL.out; have := HS.out.sz; omega) (by simp)).trans HS.out.box.heap)⟩
                have x8 := hb8.box.1.b2
                have f8 := hb8.box.2 2
                have hfar : ∀ (a0 : Option Addr) (us : List Int), Ints wl a0 us → (∀ y, a0 = some y → W1.heap.size ≤ y.block ∧ y.block < B ∧ y.block ≠ k5) → Ints (V14.setCell ⟨k5, 2, none⟩ (.slice a8 (l + 1) c8)) a0 us := fun a0 us hi0 hn0 => by
                  have h1 := hi0.grown gl12.out
                  have h2 : Ints V14 a0 us := by
                    cases hob : (Value.slice aS l cS).ownBlock with
                    | none => rw [hob] at hg8; exact h1.grown hg8
                    | some g =>
                      rw [hob] at hg8
                      have hBg := (HS.out.step.own.lt g (by rw [HS.out.len]; exact hob)).1
                      exact intsN_far h1 (fun _ y hy => by have := hn0 y hy; omega) hg8
                  exact intsN_far h2 (fun _ y hy => (hn0 y hy).2.2) (grown_set _ _ _)
                have HS9 : Hid (BeSt B k5 W1 x y L6 L11 aF cF aE cE (l + 1) a8 c8 (ts ++ [⟨We.heap.size, V12.heap.size, a9, c9, ps9⟩]) (V14.setCell ⟨k5, 2, none⟩ (.slice a8 (l + 1) c8))) := by
                  refine ⟨hb8.step _ _ _, hs8.below (grown_set _ _ _) HKL.out, by rw [List.length_append, HS.out.len]; rfl, ?_, hfar _ _ HS.out.iF HNF.out.1, hfar _ _ HS.out.iE HNF.out.2.1, grown_new G14.out (grown_set _ _ _) HNF.out.2.2, ?_⟩
                  · rw [List.range_succ, List.map_append, ← HS.out.val]
                    simp [tbL, HR9.out.2, ← HTB.out.1]
                  · have h1 := HS.out.sz
                    have h2 := gl12.out.size
                    have h3 : (V14.setCell ⟨k5, 2, none⟩ (.slice a8 (l + 1) c8)).heap.size = V14.heap.size := by simp
                    omega
                have G15 : Hid (W1.grownBy (V14.setCell ⟨k5, 2, none⟩ (.slice a8 (l + 1) c8)) none) := grown_new G14.out (grown_set _ _ _) HNF.out.2.2
                clear hs8 hf8 hk8 hz8 hg8 hb8 hfar hpl
                go_simp
                refine hK.out _ _ (S5.out.kept G14.out) (fun hHeld => ?_)
                clear hK K'
                try simp only [Act.put, List.getElem_toArray, List.getElem_cons_succ, List.getElem_cons_zero, List.setIfInBounds_toArray, List.set_cons_zero, List.set_cons_succ]
                refine wpAnyH_take (i := 15) (v := ?_) rfl (by kernel_rfl) (by kernel_rfl) (by kernel_rfl) (fun _ _ _ h => h) (Or.inl ⟨by rfl, ?_⟩) (by assumption) ?_
                rotate_left
                · intro W hSw
                  obtain ⟨q0, q1, q2, q3⟩ := hSw
                  go_simp
                  with_reducible rfl
                try simp only [Act.put, List.getElem_toArray, List.getElem_cons_succ, List.getElem_cons_zero, List.setIfInBounds_toArray, List.set_cons_zero, List.set_cons_succ]
                refine wpAnyH_ready (rs := [16]) (by kernel_rfl) (by simp) ?_
                refine AllReadyH.cons (o := _) rfl (fun K' hK => ?_) ?_
                · go_simp
                  refine hK.out _ _ (S5.out.kept G15.out) (fun hHeld => ?_)
                  clear hK K'
                  try simp only [Act.put, List.getElem_toArray, List.getElem_cons_succ, List.getElem_cons_zero, List.setIfInBounds_toArray, List.set_cons_zero, List.set_cons_succ]
                  refine wpAnyH_done (by kernel_rfl) ?_ _
                  have i7 : an2 ≤ 4 := HA4.out
                  go_wp2_with fail
                  go_roundw
                  case rel => exact ⟨l + 1, a8, c8, _, by go_num, by omega, HS9.out⟩
                  case measure => simp [intOf]; omega
                exact AllReadyH.nil
              exact AllReadyH.nil
            exact AllReadyH.nil
          exact AllReadyH.nil
        exact AllReadyH.nil
      · have i1 : ¬ (l : Int) < x.L := by have := HG.out.2.2.2.2.2; omega
        have el : l = an2 := by omega
        have bxl := HS.out.box.box.1
        have u0 := bxl.b0
        have u1 := bxl.b1
        have u2 := bxl.b2
        have u3 := bxl.b3
        obtain ⟨⟨p0, p1, p2, p3⟩, fz, W9, hW9, g9, hb9⟩ := four_store (HZ.out wl HS.out.gr) (.int .i64 x.L) (.slice aF L6.length cF) (.slice aS l cS) (.slice aE L11.length cE)
        have HW9 : Hid (W9 = _) := hW9
        have b9 := (BxW.mk (L := x.L) hb9).box.1
        have y0 := b9.b0
        have y1 := b9.b1
        have y2 := b9.b2
        have y3 := b9.b3
        have HSt : Hid (StepO B W9 aS cS ts) := HS.out.step.below g9 (by have := HB1.out.1; have := HS1.out; omega)
        have HFE : Hid (Ints W9 aF L6 ∧ Ints W9 aE L11) := ⟨intsN_far HS.out.iF (fun _ y hy => by have := HNF.out.1 y hy; have := HS1.out; omega) g9, intsN_far HS.out.iE (fun _ y hy => by have := HNF.out.2.1 y hy; have := HS1.out; omega) g9⟩
        have HTb : Hid (tbL ts = (List.range an2).map fun l => besT (tabW x l) (tabW y l)) := by show _ = _; rw [HS.out.val, el]
        have HLn : Hid (L6.length ≤ maxLen ∧ L11.length ≤ maxLen ∧ an2 ≤ maxLen) := by
          have h1 := HL16.out
          have h2 := HA4.out
          exact ⟨by unfold maxLen; omega, by unfold maxLen; omega, by unfold maxLen; omega⟩
        have hwg : ∀ W, Ints W aF L6 → Ints W aE L11 → StepO B W aS cS ts → WgAt W (besA x y) aF aS aE := fun W h1 h2 h3 => by
          rw [HK.out]
          have ht := h3.tab
          rw [HTb.out] at ht
          exact ⟨h1, ht, h2, HLn.out.1, by simpa using HLn.out.2.2, HLn.out.2.1⟩
        have F : Hid (Po (.returned (wgV x.L aF L6.length cF aS l cS aE L11.length cE)) W9) := by
          show Po _ _
          rw [HPo.out]
          refine ⟨aF, aS, aE, cF, cS, cE, ?_, hwg W9 HFE.out.1 HFE.out.2 HSt.out, grown_new (grown_trans G1.out HS.out.gr) g9 (by omega), fun b W hb hg => hwg W (intsN_far HFE.out.1 (fun _ y hy => by have := HNF.out.1 y hy; have := HS1.out; omega) hg) (intsN_far HFE.out.2 (fun _ y hy => by have := HNF.out.2.1 y hy; have := HS1.out; omega) hg) (HSt.out.below hg (by have := HB1.out.1; have := HS1.out; omega))⟩
          rw [HK.out, el]
          simp
        have f0 := fz 0
        have f1 := fz 1
        have f2 := fz 2
        have f3 := fz 3
        clear bxl fz hW9 g9 hb9 b9 hwg el
        go_wp2_with fail
        rw [← HW9.out]
        exact bodyPost_ret (v := wgV x.L aF L6.length cF aS l cS aE L11.length cE) (by simp [results, Try.results12, go_sem, y0, y1, y2, y3]) rfl F.out
end Go.Proofs.Ytkmcbdjcolbknaa
