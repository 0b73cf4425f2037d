/- Whether one automaton of trees accepts all that another does: the program's Within. -/
import Derived.Test.YtppikfgfmlipmaaTrBoth
import Derived.Test.YtppikfgfmlipmaaTrChkB
import Derived.Test.YtppikfgfmlipmaaTrWithD
import Derived.Test.YtppikfgfmlipmaaTrOth
import Derived.Test.YtppikfgfmlipmaaTrStore
namespace Go.Proofs.Ytppikfgfmlipmaa
open Go.RowKit
set_option linter.unusedVariables false
set_option linter.unusedSimpArgs false

theorem AreS.len3 {N : Nat} {X : List Nat} (h : AreS N X) (hN : N ≤ 3) : X.length ≤ 8 := by
  have h2 : 2 ^ (N + 1) ≤ 2 ^ 4 := Nat.pow_le_pow_right (by decide) (by omega)
  have h1 : (X.map (· / 2)).length ≤ 8 := by
    refine nodup_leT 8 _ ?_ fun x hx => ?_
    · have : X.Pairwise (fun a b => a / 2 ≠ b / 2) := by
        refine (List.Pairwise.and_mem.1 h.nodup).imp fun {a b} hab e => ?_
        obtain ⟨ha, hb, hne⟩ := hab
        have e1 := (h.lt a ha).2
        have e2 := (h.lt b hb).2
        rw [Nat.testBit_zero, decide_eq_false_iff_not] at e1 e2
        omega
      exact List.pairwise_map.2 this
    · obtain ⟨y, hy, rfl⟩ := List.mem_map.1 hx
      have := (h.lt y hy).1
      omega
  simpa using h1
structure Zr (W1 W : World) (kb : Nat) : Prop where
  blk : W.heap[kb]? = some (.cells #[.slice none 0 0] 28 (0, 0))
  big : W1.heap.size ≤ kb
theorem Zr.kept {W1 W W' : World} {kb : Nat} (h : Zr W1 W kb) (hg : W.grownBy W' none) : Zr W1 W' kb :=
  ⟨(hg.block kb (by
    rcases Nat.lt_or_ge kb W.heap.size with h' | h'
    · exact h'
    · have := h.blk; simp [h'] at this) (by simp)).trans h.blk, h.big⟩
def WithinPost (x y : Trs) (L : Nat) (w : World) (E : Ending) (w' : World) : Prop :=
  ∃ T a c is er, E = .returned (.tuple #[treeV a T.length c, .bool is, .int .i64 er]) ∧ WithIs x y L T is er ∧ NodesAt w' a T ∧ w.grownBy w' none

set_option maxHeartbeats 12800000 in
set_option maxRecDepth 100000 in
theorem within_good (x y : Trs) (b e b' e' : Option Addr) (d f d' f' : Nat) (w : World) (h : TrsAt w x b e) (h' : TrsAt w y b' e') (hx : GoodT x) (hy : GoodT y) (L N N' : Nat) (hL : x.L = L) (hL' : y.L = L) (hN : x.N = N) (hN' : y.N = N') (hN3 : N ≤ 3) (hN3' : N' ≤ 3) (hL2 : L ≤ 2) (hc : chkB x y = 0) :
    Calls Try.prog 4 #[trsV x.L x.N b x.R.length d x.S e x.M.length f, trsV y.L y.N b' y.R.length d' y.S e' y.M.length f'] w (WithinPost x y L w) := by
  have hOg : ∀ X, Closed y.R L X → AreS N' X → GoodT (othT y X L) ∧ X.length ≤ 8 ∧ 1 ≤ X.length ∧ (othT y X L).R.length ≤ 2000 := fun X hCl hAr => by
    have h8 := hAr.len3 hN3'
    refine ⟨oth_good (N := N') hy hL' hCl (by omega) (by omega), h8, ?_, ?_⟩
    · have hl1 := hy.l1
      have := List.length_pos_of_mem (hCl.leaf 0 (by omega))
      omega
    · show (othR y.R X L).length ≤ _
      rw [othR_len]
      have h1 : X.length * X.length ≤ 8 * 8 := Nat.mul_le_mul h8 h8
      have h2 : L * (1 + X.length * X.length) ≤ 2 * (1 + 64) := Nat.mul_le_mul hL2 (by omega)
      omega
  have hRx : InRu x.R x.L N := hN ▸ hx.ru
  have hMx : x.M.length = N := by have := hx.m; omega
  have HC : Hid (∀ W, w.grownBy W none → Calls Try.prog 9 #[trsV x.L x.N b x.R.length d x.S e x.M.length f, trsV y.L y.N b' y.R.length d' y.S e' y.M.length f'] W (Says (.int .i64 0) W)) := fun W hW => by
    have := checkBoth_any x y b e b' e' d f d' f' W (h.grown hW) (h'.grown hW)
    rwa [hc] at this
  have HO' : Hid (∀ W, w.grownBy W none → Calls Try.prog 12 #[trsV y.L y.N b' y.R.length d' y.S e' y.M.length f'] W (OthPost y L N' W)) := fun W hW => others_any y b' e' d' f' W (h'.grown hW) hy L N' hL' hN' (by omega) hL2
  have HB' : Hid (∀ W X ar am cr cm, w.grownBy W none → TrsAt W (othT y X L) ar am → Closed y.R L X → AreS N' X → Calls Try.prog 11 #[trsV x.L x.N b x.R.length d x.S e x.M.length f, trsV y.L (List.length X) ar (othT y X L).R.length cr 0 am (othT y X L).M.length cm] W (BothPost x (othT y X L) X.length W)) := fun W X ar am cr cm hW hT hCl hAr => by
    obtain ⟨hg, h8, h1, hr⟩ := hOg X hCl hAr
    have hm := hg.m
    have e2 : (othT y X L).N = ((X.length : Nat) : Int) := rfl
    exact both_any x (othT y X L) b e ar am d f cr cm W (h.grown hW) hT N X.length hN e2 (by omega) (by omega) hRx hg.ru hx.mks hg.mks (by have := hx.r4; omega) hr (by omega) (by omega)
  have HS' : Hid (∀ W X ar am cr cm, TrsAt W (bothT x (othT y X L) X.length) ar am → Closed y.R L X → AreS N' X → Calls Try.prog 10 #[trsV x.L (x.N * (othT y X L).N) ar (botR x.R (othT y X L).R X.length).length cr 0 am (botM x.M (othT y X L).M).length cm] W (SmallPost (botR x.R (othT y X L).R X.length) (botM x.M (othT y X L).M) x.L W)) := fun W X ar am cr cm hT hCl hAr => by
    obtain ⟨hg, h8, h1, hr⟩ := hOg X hCl hAr
    have hm := hg.m
    have e2 : (othT y X L).N = ((X.length : Nat) : Int) := rfl
    have hMo : (othT y X L).M.length = X.length := by show (X.map (unmS y.M)).length = _; rw [List.length_map]
    have hn1 := hx.n1
    have e3 : x.N * (othT y X L).N = ((N * X.length : Nat) : Int) := by rw [hN, e2]; simp
    have p1 : N * X.length ≤ 3 * 8 := Nat.mul_le_mul hN3 h8
    have p2 : 1 * 1 ≤ N * X.length := Nat.mul_le_mul (by omega) h1
    refine smallest_any (bothT x (othT y X L) X.length) ar am cr cm W hT ?_ ?_ ?_ ?_ ?_
    · show InRu (botR x.R (othT y X L).R X.length) x.L (x.N * (othT y X L).N)
      rw [e3]
      rw [hL] at hRx ⊢
      have := hg.ru
      rw [show (othT y X L).L = (L : Int) from hL', e2] at this
      exact botR_in hRx this
    · show (botR x.R (othT y X L).R X.length).length ≤ _
      have := botR_len x.R (othT y X L).R X.length x.R.length
      rw [List.take_length] at this
      have h5 : x.R.length * (othT y X L).R.length ≤ 40000 * 2000 := Nat.mul_le_mul (by have := hx.r4; omega) hr
      omega
    · show 1 ≤ x.N * (othT y X L).N
      rw [e3]; omega
    · show x.N * (othT y X L).N ≤ 300
      rw [e3]; omega
    · show ((botM x.M (othT y X L).M).length : Int) = x.N * (othT y X L).N
      rw [e3, botM_len, hMx, hMo]
  have HWi : Hid (∀ X T m, Closed y.R L X → AreS N' X → m ≤ 62 → SmallIs (botR x.R (othT y X L).R X.length) (botM x.M (othT y X L).M) x.L T m → SmallEx (botR x.R (othT y X L).R X.length) (botM x.M (othT y X L).M) m → (m = 61 → T = [] ∧ WithIs x y L [] false 7) ∧ (m ≠ 61 → WithIs x y L T (decide (m = 62)) 0)) := fun X T m hCl hAr hm h1 h2 => with_is hx hy hL hL' hN hN' hCl rfl (hOg X hCl hAr).1 hm h1 h2
  have HPost : Hid (∀ (T : List NodeI) (a : Option Addr) (c : Nat) (is : Bool) (er : Int) (W : World), WithIs x y L T is er → NodesAt W a T → w.grownBy W none → WithinPost x y L w (.returned (.tuple #[treeV a T.length c, .bool is, .int .i64 er])) W) := fun T a c is er W h1 h2 h3 => ⟨T, a, c, is, er, rfl, h1, h2, h3⟩
  obtain ⟨P, hP⟩ : ∃ P, P = WithinPost x y L w := ⟨_, rfl⟩
  rw [← hP] at HPost ⊢
  clear h h' hx hy hc hP hRx hMx hOg hL hL' hN hN'
  obtain ⟨Wb, hWb, gb, sb, bx, by1⟩ := two_boxW w (.int .i64 x.L) (.int .i64 x.N) (.slice b x.R.length d) (.int .i64 x.S) (.slice e x.M.length f) (.int .i64 y.L) (.int .i64 y.N) (.slice b' y.R.length d') (.int .i64 y.S) (.slice e' y.M.length f')
  obtain ⟨W1, hW1⟩ : ∃ W1, W1 = Wb.alloc (.cells #[.slice none 0 0] 28) := ⟨_, rfl⟩
  have g1 : Wb.grownBy W1 none := by rw [hW1]; exact grown_alloc _ _
  have HW1 : Hid (W1 = _) := hW1.trans (by rw [hWb])
  have G1 : Hid (w.grownBy W1 none) := grown_trans gb g1
  have hrb := heap_alloc_new Wb (.cells #[.slice none 0 0] 28)
  rw [← hW1, sb] at hrb
  have HRB : Hid (W1.heap[w.heap.size + 1 + 1]? = some (.cells #[.slice none 0 0] 28 (0, 0)) ∧ W1.heap.size = w.heap.size + 1 + 1 + 1) := ⟨hrb, by rw [hW1, World.size_alloc, sb]⟩
  have BX : Hid (∀ W', W1.grownBy W' none → W'.cell? ⟨w.heap.size, 0, none⟩ = some (.int .i64 x.L) ∧ W'.cell? ⟨w.heap.size, 1, none⟩ = some (.int .i64 x.N) ∧ W'.cell? ⟨w.heap.size, 2, none⟩ = some (.slice b x.R.length d) ∧ W'.cell? ⟨w.heap.size, 3, none⟩ = some (.int .i64 x.S) ∧ W'.cell? ⟨w.heap.size, 4, none⟩ = some (.slice e x.M.length f)) := fun W' hW' => bx W' (grown_trans g1 hW')
  have BY : Hid (∀ W', W1.grownBy W' none → W'.cell? ⟨w.heap.size + 1, 0, none⟩ = some (.int .i64 y.L) ∧ W'.cell? ⟨w.heap.size + 1, 1, none⟩ = some (.int .i64 y.N) ∧ W'.cell? ⟨w.heap.size + 1, 2, none⟩ = some (.slice b' y.R.length d') ∧ W'.cell? ⟨w.heap.size + 1, 3, none⟩ = some (.int .i64 y.S) ∧ W'.cell? ⟨w.heap.size + 1, 4, none⟩ = some (.slice e' y.M.length f')) := fun W' hW' => by1 W' (grown_trans g1 hW')
  obtain ⟨x0, x1, x2, x3, x4⟩ := BX.out W1 (grown_refl _ _)
  obtain ⟨z0, z1, z2, z3, z4⟩ := BY.out W1 (grown_refl _ _)
  rw [HW1.out] at x0 x1 x2 x3 x4 z0 z1 z2 z3 z4
  have HO : Hid (∀ W, W1.grownBy W none → Calls Try.prog 12 #[trsV y.L y.N b' y.R.length d' y.S e' y.M.length f'] W (OthPost y L N' W)) := fun W hW => HO'.out W (grown_trans G1.out hW)
  have HB : Hid (∀ W X ar am cr cm, W1.grownBy W none → TrsAt W (othT y X L) ar am → Closed y.R L X → AreS N' X → Calls Try.prog 11 #[trsV x.L x.N b x.R.length d x.S e x.M.length f, trsV y.L (List.length X) ar (othT y X L).R.length cr 0 am (othT y X L).M.length cm] W (BothPost x (othT y X L) X.length W)) := fun W X ar am cr cm hW => HB'.out W X ar am cr cm (grown_trans G1.out hW)
  have HS : Hid (∀ W X ar am cr cm, W1.grownBy W none → TrsAt W (bothT x (othT y X L) X.length) ar am → Closed y.R L X → AreS N' X → Calls Try.prog 10 #[trsV x.L (x.N * (othT y X L).N) ar (botR x.R (othT y X L).R X.length).length cr 0 am (botM x.M (othT y X L).M).length cm] W (SmallPost (botR x.R (othT y X L).R X.length) (botM x.M (othT y X L).M) x.L W)) := fun W X ar am cr cm _ => HS'.out W X ar am cr cm
  clear hWb gb sb bx by1 hW1 g1 hrb HO' HB' HS'
  go_enter Try.func4, Try.ntmps4
  go_wp2_with fail
  rw [← HW1.out]
  clear x0 x1 x2 x3 x4 z0 z1 z2 z3 z4
  refine (HC.out _ G1.out).mono ?_
  rintro E w2 ⟨rfl, hg2⟩
  go_wp2_with fail
  refine wp_region_held_drew (S := fun W => W1.grownBy W none) (by kernel_rfl) (grown_drew hg2) (fun hHeld => ?_)
  clear hg2
  generalize w2.drew = V0 at *
  refine wpAnyH_take (i := 0) (v := ?_) rfl (by kernel_rfl) (by kernel_rfl) (by kernel_rfl) (fun _ _ _ h => h) (Or.inl ⟨by rfl, ?_⟩) (by assumption) ?_
  rotate_left
  · intro W hSw
    obtain ⟨x0, x1, x2, x3, x4⟩ := BX.out W hSw
    obtain ⟨z0, z1, z2, z3, z4⟩ := BY.out W hSw
    go_simp
    with_reducible rfl
  try simp only [Act.put, List.setIfInBounds_toArray, List.set_cons_zero, List.set_cons_succ]
  refine wpAnyH_take (i := 1) (v := ?_) rfl (by kernel_rfl) (by kernel_rfl) (by kernel_rfl) (fun _ _ _ h => h) (Or.inl ⟨by rfl, ?_⟩) (by assumption) ?_
  rotate_left
  · intro W hSw
    obtain ⟨x0, x1, x2, x3, x4⟩ := BX.out W hSw
    obtain ⟨z0, z1, z2, z3, z4⟩ := BY.out W hSw
    go_simp
    with_reducible rfl
  try simp only [Act.put, List.setIfInBounds_toArray, List.set_cons_zero, List.set_cons_succ]
  refine wpAnyH_ready (rs := [2, 8]) (by kernel_rfl) (by simp) ?_
  refine AllReadyH.cons (o := _) rfl (fun K' hK => ?_) ?_
  · go_simp
    refine (HO.out _ hHeld).mono ?_
    rintro E v1 ⟨X, ar, cr, am, cm, hCl, hAr, rfl, hTr, hg0, _, _⟩
    have T1 : Hid (TrsAt v1 (othT y X L) ar am) := hTr
    have HXl : Hid (Closed y.R L X ∧ AreS N' X) := ⟨hCl, hAr⟩
    have S1 := grown_trans hHeld hg0
    clear hTr hg0 hCl hAr
    go_wp2_with fail
    refine hK.out _ _ (S1) (fun hHeld => ?_)
    clear hK K'
    try simp only [Act.put, List.setIfInBounds_toArray, List.set_cons_zero, List.set_cons_succ]
    refine wpAnyH_ready (rs := [3, 8]) (by kernel_rfl) (by simp) ?_
    refine AllReadyH.cons (o := _) rfl (fun K' hK => ?_) ?_
    · go_simp
      refine (HB.out _ X ar am cr cm hHeld T1.out HXl.out.1 HXl.out.2).mono ?_
      rintro E v2 ⟨ar2, cr2, am2, cm2, rfl, hTr2, hg1⟩
      have T2 : Hid (TrsAt v2 (bothT x (othT y X L) X.length) ar2 am2) := hTr2
      have S2 := grown_trans hHeld hg1
      clear hTr2 hg1
      go_wp2_with fail
      refine hK.out _ _ (S2) (fun hHeld => ?_)
      clear hK K'
      try simp only [Act.put, List.setIfInBounds_toArray, List.set_cons_zero, List.set_cons_succ]
      refine wpAnyH_ready (rs := [4, 8]) (by kernel_rfl) (by simp) ?_
      refine AllReadyH.cons (o := _) rfl (fun K' hK => ?_) ?_
      · go_simp
        refine (HS.out _ X ar2 am2 cr2 cm2 hHeld T2.out HXl.out.1 HXl.out.2).mono ?_
        rintro E v3 ⟨T, a, c, m, rfl, hm62, hIs, hN, hg2, hEx⟩
        have HW := HWi.out X T m HXl.out.1 HXl.out.2 hm62 hIs hEx
        have HWh : Hid _ := HW
        have S3 := grown_trans hHeld hg2
        clear hIs hg2 hEx HW
        go_wp2_with fail
        refine hK.out _ _ (S3) (fun hHeld => ?_)
        clear hK K'
        try simp only [Act.put, List.setIfInBounds_toArray, List.set_cons_zero, List.set_cons_succ]
        refine wpAnyH_take (i := 5) (v := ?_) rfl (by kernel_rfl) (by kernel_rfl) (by kernel_rfl) (fun _ _ _ h => h) (Or.inl ⟨by rfl, ?_⟩) (by assumption) ?_
        rotate_left
        · intro W hSw
          obtain ⟨x0, x1, x2, x3, x4⟩ := BX.out W hSw
          obtain ⟨z0, z1, z2, z3, z4⟩ := BY.out W hSw
          go_simp
          with_reducible rfl
        try simp only [Act.put, List.setIfInBounds_toArray, List.set_cons_zero, List.set_cons_succ]
        refine wpAnyH_take (i := 6) (v := ?_) rfl (by kernel_rfl) (by kernel_rfl) (by kernel_rfl) (fun _ _ _ h => h) (Or.inl ⟨by rfl, ?_⟩) (by assumption) ?_
        rotate_left
        · intro W hSw
          obtain ⟨x0, x1, x2, x3, x4⟩ := BX.out W hSw
          obtain ⟨z0, z1, z2, z3, z4⟩ := BY.out W hSw
          go_simp
          with_reducible rfl
        try simp only [Act.put, List.setIfInBounds_toArray, List.set_cons_zero, List.set_cons_succ]
        refine wpAnyH_take (i := 7) (v := ?_) rfl (by kernel_rfl) (by kernel_rfl) (by kernel_rfl) (fun _ _ _ h => h) (Or.inl ⟨by rfl, ?_⟩) (by assumption) ?_
        rotate_left
        · intro W hSw
          obtain ⟨x0, x1, x2, x3, x4⟩ := BX.out W hSw
          obtain ⟨z0, z1, z2, z3, z4⟩ := BY.out W hSw
          go_simp
          with_reducible rfl
        try simp only [Act.put, List.setIfInBounds_toArray, List.set_cons_zero, List.set_cons_succ]
        refine wpAnyH_ready (rs := [8]) (by kernel_rfl) (by simp) ?_
        refine AllReadyH.cons (o := _) rfl (fun K' hK => ?_) ?_
        · have hOld := hHeld
          go_simp
          refine hK.out _ _ (grown_trans hHeld (grown_alloc _ _)) (fun hHeld => ?_)
          clear hK K'
          try simp only [Act.put, List.setIfInBounds_toArray, List.set_cons_zero, List.set_cons_succ]
          obtain ⟨kb, hkb⟩ : ∃ kb, v3.heap.size = kb := ⟨_, rfl⟩
          obtain ⟨Wa, hWa⟩ : ∃ Wa, Wa = v3.alloc (.cells #[.slice none 0 0] 28) := ⟨_, rfl⟩
          have Z3 : Zr W1 Wa kb := ⟨by rw [hWa, ← hkb]; exact heap_alloc_new _ _, by rw [← hkb]; exact (hOld.size)⟩
          have hN : NodesAt Wa a T := hN.grown (by rw [hWa]; exact grown_alloc _ _)
          rw [← hWa] at hHeld ⊢
          rw [hkb]
          clear hWa hkb hOld
          refine wpAnyH_ready (rs := [9]) (by kernel_rfl) (by simp) ?_
          refine AllReadyH.cons (o := _) rfl (fun K' hK => ?_) ?_
          · obtain ⟨xr, fr, W5, hW5, g5, xw⟩ := res_store Z3.blk (.slice a T.length c)
            go_simp
            rw [← hW5]
            clear hW5 xr fr
            refine hK.out _ _ (grown_new hHeld g5 Z3.big) (fun hHeld => ?_)
            clear hK K'
            try simp only [Act.put, List.setIfInBounds_toArray, List.set_cons_zero, List.set_cons_succ]
            refine wpAnyH_take (i := 10) (v := ?_) rfl (by kernel_rfl) (by kernel_rfl) (by kernel_rfl) (fun _ _ _ h => h) (Or.inl ⟨by rfl, ?_⟩) (by assumption) ?_
            rotate_left
            · intro W hSw
              obtain ⟨x0, x1, x2, x3, x4⟩ := BX.out W hSw
              obtain ⟨z0, z1, z2, z3, z4⟩ := BY.out W hSw
              go_simp
              with_reducible rfl
            try simp only [Act.put, List.setIfInBounds_toArray, List.set_cons_zero, List.set_cons_succ]
            refine wpAnyH_done (by kernel_rfl) ?_ _
            have hr : W5.heap[w.heap.size + 1 + 1]? = some (.cells #[.slice none 0 0] 28 (0, 0)) := (hHeld.block _ (by have := HRB.out.2; omega) (by simp)).trans HRB.out.1
            have hN5 := hN.far Z3.blk g5
            by_cases hm61 : m = 61
            · obtain ⟨yr, gr, W6, hW6, g6, yw⟩ := res_store hr (.slice none 0 0)
              have HW6 : Hid (W6 = _) := hW6
              have Fin : Hid (P (.returned (.tuple #[treeV none 0 0, .bool false, .int .i64 7])) W6) := HPost.out [] none 0 false 7 W6 (HWh.out.1 hm61).2 (.inl rfl) (grown_new (grown_trans G1.out hHeld) g6 (by omega))
              have q61 : (m : Int) = 61 := by omega
              clear g6 hN5 hr hW6
              subst hm61
              go_wp2_with fail
              rw [← HW6.out]
              exact bodyPost_ret (v := .tuple #[treeV none 0 0, .bool false, .int .i64 7]) (by simp [results, Try.results4, go_sem, yw]) rfl Fin.out
            · obtain ⟨yr, gr, W6, hW6, g6, yw⟩ := res_store hr (.slice a T.length c)
              have HW6 : Hid (W6 = W5.setCell ⟨w.heap.size + 1 + 1, 0, none⟩ (.slice a T.length c)) := hW6
              have Fin : Hid (P (.returned (.tuple #[treeV a T.length c, .bool (decide (m = 62)), .int .i64 0])) W6) := HPost.out T a c _ 0 W6 (HWh.out.2 hm61) (hN5.far hr g6) (grown_new (grown_trans G1.out hHeld) g6 (by omega))
              have q61 : ¬ (m : Int) = 61 := by omega
              have en : ((m : Int) == 62) = decide (m = 62) := by rw [Bool.eq_iff_iff, beq_iff_eq, decide_eq_true_iff]; omega
              generalize decide (m = 62) = bm at *
              clear g6 hN5 hr HWh hN hW6
              generalize T.length = nT at *
              go_wp2_with fail
              rw [← HW6.out]
              exact bodyPost_ret (v := .tuple #[treeV a nT c, .bool bm, .int .i64 0]) (by simp [results, Try.results4, go_sem, yw]) rfl Fin.out
          exact AllReadyH.nil
        exact AllReadyH.nil
      refine AllReadyH.cons (o := _) rfl (fun K' hK => ?_) ?_
      · have hOld := hHeld
        go_simp
        refine hK.out _ _ (grown_trans hHeld (grown_alloc _ _)) (fun hHeld => ?_)
        clear hK K'
        try simp only [Act.put, List.setIfInBounds_toArray, List.set_cons_zero, List.set_cons_succ]
        obtain ⟨kb, hkb⟩ : ∃ kb, v2.heap.size = kb := ⟨_, rfl⟩
        obtain ⟨Wa, hWa⟩ : ∃ Wa, Wa = v2.alloc (.cells #[.slice none 0 0] 28) := ⟨_, rfl⟩
        have Z2 : Zr W1 Wa kb := ⟨by rw [hWa, ← hkb]; exact heap_alloc_new _ _, by rw [← hkb]; exact (hOld.size)⟩
        have T2 : Hid (TrsAt Wa (bothT x (othT y X L) X.length) ar2 am2) := T2.out.grown (by rw [hWa]; exact grown_alloc _ _)
        rw [← hWa] at hHeld ⊢
        rw [hkb]
        clear hWa hkb hOld
        refine wpAnyH_ready (rs := [4]) (by kernel_rfl) (by simp) ?_
        refine AllReadyH.cons (o := _) rfl (fun K' hK => ?_) ?_
        · go_simp
          refine (HS.out _ X ar2 am2 cr2 cm2 hHeld T2.out HXl.out.1 HXl.out.2).mono ?_
          rintro E v3 ⟨T, a, c, m, rfl, hm62, hIs, hN, hg2, hEx⟩
          have HW := HWi.out X T m HXl.out.1 HXl.out.2 hm62 hIs hEx
          have HWh : Hid _ := HW
          have S3 := grown_trans hHeld hg2
          have Z3 := Z2.kept hg2
          clear hIs hg2 hEx HW
          go_wp2_with fail
          refine hK.out _ _ (S3) (fun hHeld => ?_)
          clear hK K'
          try simp only [Act.put, List.setIfInBounds_toArray, List.set_cons_zero, List.set_cons_succ]
          refine wpAnyH_take (i := 5) (v := ?_) rfl (by kernel_rfl) (by kernel_rfl) (by kernel_rfl) (fun _ _ _ h => h) (Or.inl ⟨by rfl, ?_⟩) (by assumption) ?_
          rotate_left
          · intro W hSw
            obtain ⟨x0, x1, x2, x3, x4⟩ := BX.out W hSw
            obtain ⟨z0, z1, z2, z3, z4⟩ := BY.out W hSw
            go_simp
            with_reducible rfl
          try simp only [Act.put, List.setIfInBounds_toArray, List.set_cons_zero, List.set_cons_succ]
          refine wpAnyH_take (i := 6) (v := ?_) rfl (by kernel_rfl) (by kernel_rfl) (by kernel_rfl) (fun _ _ _ h => h) (Or.inl ⟨by rfl, ?_⟩) (by assumption) ?_
          rotate_left
          · intro W hSw
            obtain ⟨x0, x1, x2, x3, x4⟩ := BX.out W hSw
            obtain ⟨z0, z1, z2, z3, z4⟩ := BY.out W hSw
            go_simp
            with_reducible rfl
          try simp only [Act.put, List.setIfInBounds_toArray, List.set_cons_zero, List.set_cons_succ]
          refine wpAnyH_take (i := 7) (v := ?_) rfl (by kernel_rfl) (by kernel_rfl) (by kernel_rfl) (fun _ _ _ h => h) (Or.inl ⟨by rfl, ?_⟩) (by assumption) ?_
          rotate_left
          · intro W hSw
            obtain ⟨x0, x1, x2, x3, x4⟩ := BX.out W hSw
            obtain ⟨z0, z1, z2, z3, z4⟩ := BY.out W hSw
            go_simp
            with_reducible rfl
          try simp only [Act.put, List.setIfInBounds_toArray, List.set_cons_zero, List.set_cons_succ]
          refine wpAnyH_ready (rs := [9]) (by kernel_rfl) (by simp) ?_
          refine AllReadyH.cons (o := _) rfl (fun K' hK => ?_) ?_
          · obtain ⟨xr, fr, W5, hW5, g5, xw⟩ := res_store Z3.blk (.slice a T.length c)
            go_simp
            rw [← hW5]
            clear hW5 xr fr
            refine hK.out _ _ (grown_new hHeld g5 Z3.big) (fun hHeld => ?_)
            clear hK K'
            try simp only [Act.put, List.setIfInBounds_toArray, List.set_cons_zero, List.set_cons_succ]
            refine wpAnyH_take (i := 10) (v := ?_) rfl (by kernel_rfl) (by kernel_rfl) (by kernel_rfl) (fun _ _ _ h => h) (Or.inl ⟨by rfl, ?_⟩) (by assumption) ?_
            rotate_left
            · intro W hSw
              obtain ⟨x0, x1, x2, x3, x4⟩ := BX.out W hSw
              obtain ⟨z0, z1, z2, z3, z4⟩ := BY.out W hSw
              go_simp
              with_reducible rfl
            try simp only [Act.put, List.setIfInBounds_toArray, List.set_cons_zero, List.set_cons_succ]
            refine wpAnyH_done (by kernel_rfl) ?_ _
            have hr : W5.heap[w.heap.size + 1 + 1]? = some (.cells #[.slice none 0 0] 28 (0, 0)) := (hHeld.block _ (by have := HRB.out.2; omega) (by simp)).trans HRB.out.1
            have hN5 := hN.far Z3.blk g5
            by_cases hm61 : m = 61
            · obtain ⟨yr, gr, W6, hW6, g6, yw⟩ := res_store hr (.slice none 0 0)
              have HW6 : Hid (W6 = _) := hW6
              have Fin : Hid (P (.returned (.tuple #[treeV none 0 0, .bool false, .int .i64 7])) W6) := HPost.out [] none 0 false 7 W6 (HWh.out.1 hm61).2 (.inl rfl) (grown_new (grown_trans G1.out hHeld) g6 (by omega))
              have q61 : (m : Int) = 61 := by omega
              clear g6 hN5 hr hW6
              subst hm61
              go_wp2_with fail
              rw [← HW6.out]
              exact bodyPost_ret (v := .tuple #[treeV none 0 0, .bool false, .int .i64 7]) (by simp [results, Try.results4, go_sem, yw]) rfl Fin.out
            · obtain ⟨yr, gr, W6, hW6, g6, yw⟩ := res_store hr (.slice a T.length c)
              have HW6 : Hid (W6 = W5.setCell ⟨w.heap.size + 1 + 1, 0, none⟩ (.slice a T.length c)) := hW6
              have Fin : Hid (P (.returned (.tuple #[treeV a T.length c, .bool (decide (m = 62)), .int .i64 0])) W6) := HPost.out T a c _ 0 W6 (HWh.out.2 hm61) (hN5.far hr g6) (grown_new (grown_trans G1.out hHeld) g6 (by omega))
              have q61 : ¬ (m : Int) = 61 := by omega
              have en : ((m : Int) == 62) = decide (m = 62) := by rw [Bool.eq_iff_iff, beq_iff_eq, decide_eq_true_iff]; omega
              generalize decide (m = 62) = bm at *
              clear g6 hN5 hr HWh hN hW6
              generalize T.length = nT at *
              go_wp2_with fail
              rw [← HW6.out]
              exact bodyPost_ret (v := .tuple #[treeV a nT c, .bool bm, .int .i64 0]) (by simp [results, Try.results4, go_sem, yw]) rfl Fin.out
          exact AllReadyH.nil
        exact AllReadyH.nil
      exact AllReadyH.nil
    refine AllReadyH.cons (o := _) rfl (fun K' hK => ?_) ?_
    · have hOld := hHeld
      go_simp
      refine hK.out _ _ (grown_trans hHeld (grown_alloc _ _)) (fun hHeld => ?_)
      clear hK K'
      try simp only [Act.put, List.setIfInBounds_toArray, List.set_cons_zero, List.set_cons_succ]
      obtain ⟨kb, hkb⟩ : ∃ kb, v1.heap.size = kb := ⟨_, rfl⟩
      obtain ⟨Wa, hWa⟩ : ∃ Wa, Wa = v1.alloc (.cells #[.slice none 0 0] 28) := ⟨_, rfl⟩
      have Z1 : Zr W1 Wa kb := ⟨by rw [hWa, ← hkb]; exact heap_alloc_new _ _, by rw [← hkb]; exact (hOld.size)⟩
      have T1 : Hid (TrsAt Wa (othT y X L) ar am) := T1.out.grown (by rw [hWa]; exact grown_alloc _ _)
      rw [← hWa] at hHeld ⊢
      rw [hkb]
      clear hWa hkb hOld
      refine wpAnyH_ready (rs := [3]) (by kernel_rfl) (by simp) ?_
      refine AllReadyH.cons (o := _) rfl (fun K' hK => ?_) ?_
      · go_simp
        refine (HB.out _ X ar am cr cm hHeld T1.out HXl.out.1 HXl.out.2).mono ?_
        rintro E v2 ⟨ar2, cr2, am2, cm2, rfl, hTr2, hg1⟩
        have T2 : Hid (TrsAt v2 (bothT x (othT y X L) X.length) ar2 am2) := hTr2
        have S2 := grown_trans hHeld hg1
        have Z2 := Z1.kept hg1
        clear hTr2 hg1
        go_wp2_with fail
        refine hK.out _ _ (S2) (fun hHeld => ?_)
        clear hK K'
        try simp only [Act.put, List.setIfInBounds_toArray, List.set_cons_zero, List.set_cons_succ]
        refine wpAnyH_ready (rs := [4]) (by kernel_rfl) (by simp) ?_
        refine AllReadyH.cons (o := _) rfl (fun K' hK => ?_) ?_
        · go_simp
          refine (HS.out _ X ar2 am2 cr2 cm2 hHeld T2.out HXl.out.1 HXl.out.2).mono ?_
          rintro E v3 ⟨T, a, c, m, rfl, hm62, hIs, hN, hg2, hEx⟩
          have HW := HWi.out X T m HXl.out.1 HXl.out.2 hm62 hIs hEx
          have HWh : Hid _ := HW
          have S3 := grown_trans hHeld hg2
          have Z3 := Z2.kept hg2
          clear hIs hg2 hEx HW
          go_wp2_with fail
          refine hK.out _ _ (S3) (fun hHeld => ?_)
          clear hK K'
          try simp only [Act.put, List.setIfInBounds_toArray, List.set_cons_zero, List.set_cons_succ]
          refine wpAnyH_take (i := 5) (v := ?_) rfl (by kernel_rfl) (by kernel_rfl) (by kernel_rfl) (fun _ _ _ h => h) (Or.inl ⟨by rfl, ?_⟩) (by assumption) ?_
          rotate_left
          · intro W hSw
            obtain ⟨x0, x1, x2, x3, x4⟩ := BX.out W hSw
            obtain ⟨z0, z1, z2, z3, z4⟩ := BY.out W hSw
            go_simp
            with_reducible rfl
          try simp only [Act.put, List.setIfInBounds_toArray, List.set_cons_zero, List.set_cons_succ]
          refine wpAnyH_take (i := 6) (v := ?_) rfl (by kernel_rfl) (by kernel_rfl) (by kernel_rfl) (fun _ _ _ h => h) (Or.inl ⟨by rfl, ?_⟩) (by assumption) ?_
          rotate_left
          · intro W hSw
            obtain ⟨x0, x1, x2, x3, x4⟩ := BX.out W hSw
            obtain ⟨z0, z1, z2, z3, z4⟩ := BY.out W hSw
            go_simp
            with_reducible rfl
          try simp only [Act.put, List.setIfInBounds_toArray, List.set_cons_zero, List.set_cons_succ]
          refine wpAnyH_take (i := 7) (v := ?_) rfl (by kernel_rfl) (by kernel_rfl) (by kernel_rfl) (fun _ _ _ h => h) (Or.inl ⟨by rfl, ?_⟩) (by assumption) ?_
          rotate_left
          · intro W hSw
            obtain ⟨x0, x1, x2, x3, x4⟩ := BX.out W hSw
            obtain ⟨z0, z1, z2, z3, z4⟩ := BY.out W hSw
            go_simp
            with_reducible rfl
          try simp only [Act.put, List.setIfInBounds_toArray, List.set_cons_zero, List.set_cons_succ]
          refine wpAnyH_ready (rs := [9]) (by kernel_rfl) (by simp) ?_
          refine AllReadyH.cons (o := _) rfl (fun K' hK => ?_) ?_
          · obtain ⟨xr, fr, W5, hW5, g5, xw⟩ := res_store Z3.blk (.slice a T.length c)
            go_simp
            rw [← hW5]
            clear hW5 xr fr
            refine hK.out _ _ (grown_new hHeld g5 Z3.big) (fun hHeld => ?_)
            clear hK K'
            try simp only [Act.put, List.setIfInBounds_toArray, List.set_cons_zero, List.set_cons_succ]
            refine wpAnyH_take (i := 10) (v := ?_) rfl (by kernel_rfl) (by kernel_rfl) (by kernel_rfl) (fun _ _ _ h => h) (Or.inl ⟨by rfl, ?_⟩) (by assumption) ?_
            rotate_left
            · intro W hSw
              obtain ⟨x0, x1, x2, x3, x4⟩ := BX.out W hSw
              obtain ⟨z0, z1, z2, z3, z4⟩ := BY.out W hSw
              go_simp
              with_reducible rfl
            try simp only [Act.put, List.setIfInBounds_toArray, List.set_cons_zero, List.set_cons_succ]
            refine wpAnyH_done (by kernel_rfl) ?_ _
            have hr : W5.heap[w.heap.size + 1 + 1]? = some (.cells #[.slice none 0 0] 28 (0, 0)) := (hHeld.block _ (by have := HRB.out.2; omega) (by simp)).trans HRB.out.1
            have hN5 := hN.far Z3.blk g5
            by_cases hm61 : m = 61
            · obtain ⟨yr, gr, W6, hW6, g6, yw⟩ := res_store hr (.slice none 0 0)
              have HW6 : Hid (W6 = _) := hW6
              have Fin : Hid (P (.returned (.tuple #[treeV none 0 0, .bool false, .int .i64 7])) W6) := HPost.out [] none 0 false 7 W6 (HWh.out.1 hm61).2 (.inl rfl) (grown_new (grown_trans G1.out hHeld) g6 (by omega))
              have q61 : (m : Int) = 61 := by omega
              clear g6 hN5 hr hW6
              subst hm61
              go_wp2_with fail
              rw [← HW6.out]
              exact bodyPost_ret (v := .tuple #[treeV none 0 0, .bool false, .int .i64 7]) (by simp [results, Try.results4, go_sem, yw]) rfl Fin.out
            · obtain ⟨yr, gr, W6, hW6, g6, yw⟩ := res_store hr (.slice a T.length c)
              have HW6 : Hid (W6 = W5.setCell ⟨w.heap.size + 1 + 1, 0, none⟩ (.slice a T.length c)) := hW6
              have Fin : Hid (P (.returned (.tuple #[treeV a T.length c, .bool (decide (m = 62)), .int .i64 0])) W6) := HPost.out T a c _ 0 W6 (HWh.out.2 hm61) (hN5.far hr g6) (grown_new (grown_trans G1.out hHeld) g6 (by omega))
              have q61 : ¬ (m : Int) = 61 := by omega
              have en : ((m : Int) == 62) = decide (m = 62) := by rw [Bool.eq_iff_iff, beq_iff_eq, decide_eq_true_iff]; omega
              generalize decide (m = 62) = bm at *
              clear g6 hN5 hr HWh hN hW6
              generalize T.length = nT at *
              go_wp2_with fail
              rw [← HW6.out]
              exact bodyPost_ret (v := .tuple #[treeV a nT c, .bool bm, .int .i64 0]) (by simp [results, Try.results4, go_sem, yw]) rfl Fin.out
          exact AllReadyH.nil
        exact AllReadyH.nil
      exact AllReadyH.nil
    exact AllReadyH.nil
  refine AllReadyH.cons (o := _) rfl (fun K' hK => ?_) ?_
  · have hOld := hHeld
    go_simp
    refine hK.out _ _ (grown_trans hHeld (grown_alloc _ _)) (fun hHeld => ?_)
    clear hK K'
    try simp only [Act.put, List.setIfInBounds_toArray, List.set_cons_zero, List.set_cons_succ]
    obtain ⟨kb, hkb⟩ : ∃ kb, V0.heap.size = kb := ⟨_, rfl⟩
    obtain ⟨Wa, hWa⟩ : ∃ Wa, Wa = V0.alloc (.cells #[.slice none 0 0] 28) := ⟨_, rfl⟩
    have Z0 : Zr W1 Wa kb := ⟨by rw [hWa, ← hkb]; exact heap_alloc_new _ _, by rw [← hkb]; exact (hOld.size)⟩
    rw [← hWa] at hHeld ⊢
    rw [hkb]
    clear hWa hkb hOld
    refine wpAnyH_ready (rs := [2]) (by kernel_rfl) (by simp) ?_
    refine AllReadyH.cons (o := _) rfl (fun K' hK => ?_) ?_
    · go_simp
      refine (HO.out _ hHeld).mono ?_
      rintro E v1 ⟨X, ar, cr, am, cm, hCl, hAr, rfl, hTr, hg0, _, _⟩
      have T1 : Hid (TrsAt v1 (othT y X L) ar am) := hTr
      have HXl : Hid (Closed y.R L X ∧ AreS N' X) := ⟨hCl, hAr⟩
      have S1 := grown_trans hHeld hg0
      have Z1 := Z0.kept hg0
      clear hTr hg0 hCl hAr
      go_wp2_with fail
      refine hK.out _ _ (S1) (fun hHeld => ?_)
      clear hK K'
      try simp only [Act.put, List.setIfInBounds_toArray, List.set_cons_zero, List.set_cons_succ]
      refine wpAnyH_ready (rs := [3]) (by kernel_rfl) (by simp) ?_
      refine AllReadyH.cons (o := _) rfl (fun K' hK => ?_) ?_
      · go_simp
        refine (HB.out _ X ar am cr cm hHeld T1.out HXl.out.1 HXl.out.2).mono ?_
        rintro E v2 ⟨ar2, cr2, am2, cm2, rfl, hTr2, hg1⟩
        have T2 : Hid (TrsAt v2 (bothT x (othT y X L) X.length) ar2 am2) := hTr2
        have S2 := grown_trans hHeld hg1
        have Z2 := Z1.kept hg1
        clear hTr2 hg1
        go_wp2_with fail
        refine hK.out _ _ (S2) (fun hHeld => ?_)
        clear hK K'
        try simp only [Act.put, List.setIfInBounds_toArray, List.set_cons_zero, List.set_cons_succ]
        refine wpAnyH_ready (rs := [4]) (by kernel_rfl) (by simp) ?_
        refine AllReadyH.cons (o := _) rfl (fun K' hK => ?_) ?_
        · go_simp
          refine (HS.out _ X ar2 am2 cr2 cm2 hHeld T2.out HXl.out.1 HXl.out.2).mono ?_
          rintro E v3 ⟨T, a, c, m, rfl, hm62, hIs, hN, hg2, hEx⟩
          have HW := HWi.out X T m HXl.out.1 HXl.out.2 hm62 hIs hEx
          have HWh : Hid _ := HW
          have S3 := grown_trans hHeld hg2
          have Z3 := Z2.kept hg2
          clear hIs hg2 hEx HW
          go_wp2_with fail
          refine hK.out _ _ (S3) (fun hHeld => ?_)
          clear hK K'
          try simp only [Act.put, List.setIfInBounds_toArray, List.set_cons_zero, List.set_cons_succ]
          refine wpAnyH_take (i := 5) (v := ?_) rfl (by kernel_rfl) (by kernel_rfl) (by kernel_rfl) (fun _ _ _ h => h) (Or.inl ⟨by rfl, ?_⟩) (by assumption) ?_
          rotate_left
          · intro W hSw
            obtain ⟨x0, x1, x2, x3, x4⟩ := BX.out W hSw
            obtain ⟨z0, z1, z2, z3, z4⟩ := BY.out W hSw
            go_simp
            with_reducible rfl
          try simp only [Act.put, List.setIfInBounds_toArray, List.set_cons_zero, List.set_cons_succ]
          refine wpAnyH_take (i := 6) (v := ?_) rfl (by kernel_rfl) (by kernel_rfl) (by kernel_rfl) (fun _ _ _ h => h) (Or.inl ⟨by rfl, ?_⟩) (by assumption) ?_
          rotate_left
          · intro W hSw
            obtain ⟨x0, x1, x2, x3, x4⟩ := BX.out W hSw
            obtain ⟨z0, z1, z2, z3, z4⟩ := BY.out W hSw
            go_simp
            with_reducible rfl
          try simp only [Act.put, List.setIfInBounds_toArray, List.set_cons_zero, List.set_cons_succ]
          refine wpAnyH_take (i := 7) (v := ?_) rfl (by kernel_rfl) (by kernel_rfl) (by kernel_rfl) (fun _ _ _ h => h) (Or.inl ⟨by rfl, ?_⟩) (by assumption) ?_
          rotate_left
          · intro W hSw
            obtain ⟨x0, x1, x2, x3, x4⟩ := BX.out W hSw
            obtain ⟨z0, z1, z2, z3, z4⟩ := BY.out W hSw
            go_simp
            with_reducible rfl
          try simp only [Act.put, List.setIfInBounds_toArray, List.set_cons_zero, List.set_cons_succ]
          refine wpAnyH_ready (rs := [9]) (by kernel_rfl) (by simp) ?_
          refine AllReadyH.cons (o := _) rfl (fun K' hK => ?_) ?_
          · obtain ⟨xr, fr, W5, hW5, g5, xw⟩ := res_store Z3.blk (.slice a T.length c)
            go_simp
            rw [← hW5]
            clear hW5 xr fr
            refine hK.out _ _ (grown_new hHeld g5 Z3.big) (fun hHeld => ?_)
            clear hK K'
            try simp only [Act.put, List.setIfInBounds_toArray, List.set_cons_zero, List.set_cons_succ]
            refine wpAnyH_take (i := 10) (v := ?_) rfl (by kernel_rfl) (by kernel_rfl) (by kernel_rfl) (fun _ _ _ h => h) (Or.inl ⟨by rfl, ?_⟩) (by assumption) ?_
            rotate_left
            · intro W hSw
              obtain ⟨x0, x1, x2, x3, x4⟩ := BX.out W hSw
              obtain ⟨z0, z1, z2, z3, z4⟩ := BY.out W hSw
              go_simp
              with_reducible rfl
            try simp only [Act.put, List.setIfInBounds_toArray, List.set_cons_zero, List.set_cons_succ]
            refine wpAnyH_done (by kernel_rfl) ?_ _
            have hr : W5.heap[w.heap.size + 1 + 1]? = some (.cells #[.slice none 0 0] 28 (0, 0)) := (hHeld.block _ (by have := HRB.out.2; omega) (by simp)).trans HRB.out.1
            have hN5 := hN.far Z3.blk g5
            by_cases hm61 : m = 61
            · obtain ⟨yr, gr, W6, hW6, g6, yw⟩ := res_store hr (.slice none 0 0)
              have HW6 : Hid (W6 = _) := hW6
              have Fin : Hid (P (.returned (.tuple #[treeV none 0 0, .bool false, .int .i64 7])) W6) := HPost.out [] none 0 false 7 W6 (HWh.out.1 hm61).2 (.inl rfl) (grown_new (grown_trans G1.out hHeld) g6 (by omega))
              have q61 : (m : Int) = 61 := by omega
              clear g6 hN5 hr hW6
              subst hm61
              go_wp2_with fail
              rw [← HW6.out]
              exact bodyPost_ret (v := .tuple #[treeV none 0 0, .bool false, .int .i64 7]) (by simp [results, Try.results4, go_sem, yw]) rfl Fin.out
            · obtain ⟨yr, gr, W6, hW6, g6, yw⟩ := res_store hr (.slice a T.length c)
              have HW6 : Hid (W6 = W5.setCell ⟨w.heap.size + 1 + 1, 0, none⟩ (.slice a T.length c)) := hW6
              have Fin : Hid (P (.returned (.tuple #[treeV a T.length c, .bool (decide (m = 62)), .int .i64 0])) W6) := HPost.out T a c _ 0 W6 (HWh.out.2 hm61) (hN5.far hr g6) (grown_new (grown_trans G1.out hHeld) g6 (by omega))
              have q61 : ¬ (m : Int) = 61 := by omega
              have en : ((m : Int) == 62) = decide (m = 62) := by rw [Bool.eq_iff_iff, beq_iff_eq, decide_eq_true_iff]; omega
              generalize decide (m = 62) = bm at *
              clear g6 hN5 hr HWh hN hW6
              generalize T.length = nT at *
              go_wp2_with fail
              rw [← HW6.out]
              exact bodyPost_ret (v := .tuple #[treeV a nT c, .bool bm, .int .i64 0]) (by simp [results, Try.results4, go_sem, yw]) rfl Fin.out
          exact AllReadyH.nil
        exact AllReadyH.nil
      exact AllReadyH.nil
    exact AllReadyH.nil
  exact AllReadyH.nil

end Go.Proofs.Ytppikfgfmlipmaa
