/- Whether there is a way: the program's stack.Way. (Written by wip/tools/sgwaye.py.) -/
import Derived.Test.YtcgkflddipflbaaSgW
import Derived.Test.YtcgkflddipflbaaSkChk
namespace Go.Proofs.Ytcgkflddipflbaa
open Go.RowKit Go.Maps
set_option linter.unusedVariables false
set_option linter.unusedSimpArgs false

/-- Two configs in boxes, and beside one another. -/
theorem way_boxes (w : World) (c1 g1 : Int) (vc vg : Value) : ∃ W, W = ((w.alloc (.cells #[.int .i64 c1, vc] 25)).alloc (.cells #[.int .i64 g1, vg] 25)).alloc (.cells #[.int .i64 c1, vc, .int .i64 g1, vg] 25) ∧ w.grownBy W none ∧ W.heap[w.heap.size]? = some (.cells #[.int .i64 c1, vc] 25 (0, 0)) ∧ W.heap[w.heap.size + 1]? = some (.cells #[.int .i64 g1, vg] 25 (0, 0)) ∧ W.heap[w.heap.size + 2]? = some (.cells #[.int .i64 c1, vc, .int .i64 g1, vg] 25 (0, 0)) := by
  have h0 := heap_alloc_new w (.cells #[.int .i64 c1, vc] 25)
  have h1 := heap_alloc_new (w.alloc (.cells #[.int .i64 c1, vc] 25)) (.cells #[.int .i64 g1, vg] 25)
  have h2 := heap_alloc_new ((w.alloc (.cells #[.int .i64 c1, vc] 25)).alloc (.cells #[.int .i64 g1, vg] 25)) (.cells #[.int .i64 c1, vc, .int .i64 g1, vg] 25)
  rw [show (w.alloc (.cells #[.int .i64 c1, vc] 25)).heap.size = w.heap.size + 1 by simp] at h1
  rw [show ((w.alloc (.cells #[.int .i64 c1, vc] 25)).alloc (.cells #[.int .i64 g1, vg] 25)).heap.size = w.heap.size + 2 by simp] at h2
  refine ⟨_, rfl, grown_trans (grown_trans (grown_alloc _ _) (grown_alloc _ _)) (grown_alloc _ _), ?_, ?_, h2⟩
  · exact ((grown_alloc _ _).block _ (by simp <;> omega) (by simp)).trans (((grown_alloc _ _).block _ (by simp <;> omega) (by simp)).trans h0)
  · exact ((grown_alloc _ _).block _ (by simp <;> omega) (by simp)).trans h1
/-- What is read of both boxes. -/
theorem way_cells (w : World) (c1 g1 : Int) (vc vg : Value) : ∀ W, W = (w.alloc (.cells #[.int .i64 c1, vc] 25)).alloc (.cells #[.int .i64 g1, vg] 25) → W.cell? ⟨w.heap.size, 0, none⟩ = some (.int .i64 c1) ∧ W.cell? ⟨w.heap.size, 1, none⟩ = some vc ∧ W.cell? ⟨w.heap.size + 1, 0, none⟩ = some (.int .i64 g1) ∧ W.cell? ⟨w.heap.size + 1, 1, none⟩ = some vg := by
  rintro W rfl
  have h0 := heap_alloc_new w (.cells #[.int .i64 c1, vc] 25)
  have h1 := heap_alloc_new (w.alloc (.cells #[.int .i64 c1, vc] 25)) (.cells #[.int .i64 g1, vg] 25)
  rw [show (w.alloc (.cells #[.int .i64 c1, vc] 25)).heap.size = w.heap.size + 1 by simp] at h1
  exact ⟨(grown_alloc _ _).cell (by rw [cell_of_row _ _ 0 _ _ (0, 0) h0]; rfl) (by simp), (grown_alloc _ _).cell (by rw [cell_of_row _ _ 1 _ _ (0, 0) h0]; rfl) (by simp), by rw [cell_of_row _ _ 0 _ _ (0, 0) h1]; rfl, by rw [cell_of_row _ _ 1 _ _ (0, 0) h1]; rfl⟩
theorem two_cfgs {W : World} {B : Nat} {c gl : Cfg} {b b' : Option Addr} {k k' : Nat} (h : W.heap[B]? = some (.cells #[.int .i64 c.1, .slice b c.2.length k, .int .i64 gl.1, .slice b' gl.2.length k'] 25 (0, 0))) (hc : Ints W b c.2) (hcm : c.2.length ≤ maxLen) (hg : Ints W b' gl.2) (hgm : gl.2.length ≤ maxLen) : CfgsAt W B [c, gl] := by
  intro i hi
  rcases (show i = 0 ∨ i = 1 by simp at hi; omega) with rfl | rfl
  · exact ⟨by rw [cell_of_row _ _ _ _ _ (0, 0) h]; rfl, b, k, by rw [cell_of_row _ _ _ _ _ (0, 0) h]; rfl, hc, hcm⟩
  · exact ⟨by rw [cell_of_row _ _ _ _ _ (0, 0) h]; rfl, b', k', by rw [cell_of_row _ _ _ _ _ (0, 0) h]; rfl, hg, hgm⟩

set_option maxHeartbeats 3200000 in
set_option maxRecDepth 100000 in
theorem wayE_bad (L : List Psh) (c gl : Cfg) (a b b' : Option Addr) (d k k' : Nat) (w : World) (h : PushAt w a L) (hm : L.length ≤ maxLen) (hc : Ints w b c.2) (hcm : c.2.length ≤ maxLen) (hg : Ints w b' gl.2) (hgm : gl.2.length ≤ maxLen) (hy : allSk L [c, gl] ≠ 0) :
    Calls Try.prog 4 #[.slice a L.length d, cfgV c.1 b c.2.length k, cfgV gl.1 b' gl.2.length k'] w (Says (.tuple #[.slice none 0 0, .bool false, .int .i64 (allSk L [c, gl])]) w) := by
  obtain ⟨W3, hW3, g3, h0, h1, h2⟩ := way_boxes w c.1 gl.1 (.slice b c.2.length k) (.slice b' gl.2.length k')
  have HK : Hid (Calls Try.prog 15 #[.slice a L.length d, .slice (some ⟨w.heap.size + 2, 0, none⟩) 2 2] W3 (Says (.int .i64 (allSk L [c, gl])) W3)) := checkAll_any a d (w.heap.size + 2) L [c, gl] W3 (h.grown g3) hm (two_cfgs h2 (hc.grown g3) hcm (hg.grown g3) hgm) (by simp)
  obtain ⟨q0, q1, q2, q3⟩ := way_cells w c.1 gl.1 (.slice b c.2.length k) (.slice b' gl.2.length k') _ rfl
  have HW3 : Hid (W3 = _) := hW3
  have G3 : Hid (w.grownBy W3 none) := g3
  obtain ⟨y, hyy⟩ : ∃ y, allSk L [c, gl] = y := ⟨_, rfl⟩
  rw [hyy] at HK hy ⊢
  have e1 : (y != 0) = true := by simpa using hy
  obtain ⟨n, hn⟩ : ∃ n, c.2.length = n := ⟨_, rfl⟩
  obtain ⟨n', hn'⟩ : ∃ n', gl.2.length = n' := ⟨_, rfl⟩
  rw [hn, hn'] at HW3 q0 q1 q2 q3
  clear h hm hc hcm hg hgm hy hW3 g3 h0 h1 h2 hyy
  go_enter Try.func4, Try.ntmps4
  go_wp2_with fail
  rw [← HW3.out]
  refine HK.out.mono ?_
  rintro E w2 ⟨rfl, hg2⟩
  have GF : Hid (w.grownBy w2 none) := grown_trans G3.out hg2
  clear hg2
  go_wp2_with fail
  exact bodyPost_ret (v := .tuple #[.slice none 0 0, .bool false, .int .i64 y]) (by simp [results, Try.results4, go_sem]) rfl ⟨rfl, GF.out⟩

def SWy (b1 b2 cN gN : Nat) (vc vg : Value) (W : World) : Prop := CfgB W b1 cN vc ∧ CfgB W b2 gN vg
theorem SWy.kept {b1 b2 cN gN : Nat} {vc vg : Value} {W W' : World} (h : SWy b1 b2 cN gN vc vg W) (hg : W.grownBy W' none) : SWy b1 b2 cN gN vc vg W' := ⟨h.1.kept hg (by simp), h.2.kept hg (by simp)⟩
/-- What Way leaves behind. -/
def WayPost (L : List Psh) (cN gN : Nat) (zs gz : List Int) (w : World) (e : Ending) (w' : World) : Prop :=
  ∃ (E : Edg) (ar : Option Addr) (n cr : Nat) (can : Bool) (y : Int), e = .returned (.tuple #[.slice ar n cr, .bool can, .int .i64 y]) ∧ w.grownBy w' none ∧ Top E ∧ TowP L gN gz E ∧ (readC E cN zs (behC gN gz.length) = 2002 → can = false ∧ y = 0 ∧ n = 0) ∧ (readC E cN zs (behC gN gz.length) = 2001 → y = 7 ∧ can = false ∧ n = 0) ∧ (readC E cN zs (behC gN gz.length) ≤ 2000 → can = true ∧ y = 0 ∧ ∃ rs, n = List.length rs ∧ Ints w' ar rs ∧ rs.length ≤ 2000 ∧ RunsTo L rs ((cN : Int), zs) ((gN : Int), gz))

set_option maxHeartbeats 12800000 in
set_option maxRecDepth 100000 in
theorem wayE_good (L : List Psh) (cN gN : Nat) (zs gz : List Int) (a b b' : Option Addr) (d k k' : Nat) (w : World) (h : PushAt w a L) (hm : L.length ≤ maxLen) (hc : Ints w b zs) (hg : Ints w b' gz) (hy : allSk L [((cN : Int), zs), ((gN : Int), gz)] = 0) (hG : GoodSk L) (hcl : zs.length ≤ 20) (hgl : gz.length ≤ 20) (hcN : cN < 3) (hgN : gN < 3) (hzs : OnesSk zs) (hgz : OnesSk gz) :
    Calls Try.prog 4 #[.slice a L.length d, cfgV cN b zs.length k, cfgV gN b' gz.length k'] w fun e w' => (3 < gz.length ∧ Says (.tuple #[.slice none 0 0, .bool false, .int .i64 1]) w e w') ∨ (gz.length ≤ 3 ∧ WayPost L cN gN zs gz w e w') := by
  obtain ⟨W3, hW3, g3, h0, h1, h2⟩ := way_boxes w cN gN (.slice b zs.length k) (.slice b' gz.length k')
  have HK : Hid (Calls Try.prog 15 #[.slice a L.length d, .slice (some ⟨w.heap.size + 2, 0, none⟩) 2 2] W3 (Says (.int .i64 0) W3)) := by
    have := checkAll_any a d (w.heap.size + 2) L [((cN : Int), zs), ((gN : Int), gz)] W3 (h.grown g3) hm (two_cfgs (c := ((cN : Int), zs)) (gl := ((gN : Int), gz)) h2 (hc.grown g3) (by unfold maxLen; simp only; omega) (hg.grown g3) (by unfold maxLen; simp only; omega)) (by simp)
    rw [hy] at this
    exact this
  have HW3 : Hid (W3 = _) := hW3
  have G3 : Hid (w.grownBy W3 none) := g3
  obtain ⟨b1, hb1⟩ : ∃ b1, w.heap.size = b1 := ⟨_, rfl⟩
  obtain ⟨b2, hb2⟩ : ∃ b2, b1 + 1 = b2 := ⟨_, rfl⟩
  obtain ⟨b3, hb3⟩ : ∃ b3, b2 + 1 = b3 := ⟨_, rfl⟩
  obtain ⟨vc, hvc⟩ : ∃ vc, Value.slice b zs.length k = vc := ⟨_, rfl⟩
  obtain ⟨vg, hvg⟩ : ∃ vg, Value.slice b' gz.length k' = vg := ⟨_, rfl⟩
  have S3 : Hid (SWy b1 b2 cN gN (.slice b zs.length k) (.slice b' gz.length k') W3) := by
    rw [hb1] at h0 h1
    rw [hb2] at h1
    exact ⟨h0, h1⟩
  have HP : Hid (PushAt w a L) := h
  have HGd : Hid (GoodSk L) := hG
  have HZ : Hid (Ints w b zs) := hc
  have HGz : Hid (Ints w b' gz) := hg
  have HS : Hid (OnesSk zs ∧ OnesSk gz) := ⟨hzs, hgz⟩
  obtain ⟨q0, q1, q2, q3⟩ := way_cells w cN gN (.slice b zs.length k) (.slice b' gz.length k') _ rfl
  rw [hb1] at q0 q1 q2 q3
  rw [hb2] at q2 q3
  rw [hb1, show b1 + 2 = b3 by omega] at HK
  clear h hc hg hG hzs hgz hW3 g3 h0 h1 h2 hy hvc hvg vc vg
  go_enter Try.func4, Try.ntmps4
  go_wp2_with fail
  rw [← HW3.out]
  clear HW3 q0 q1 q2 q3
  refine HK.out.mono ?_
  rintro E w2 ⟨rfl, hg2⟩
  have G2 : Hid (w.grownBy w2 none) := grown_trans G3.out hg2
  have S2 : Hid (SWy b1 b2 cN gN (.slice b zs.length k) (.slice b' gz.length k') w2) := S3.out.kept hg2
  obtain ⟨q0, q1⟩ := S2.out.1.get
  obtain ⟨q2, q3⟩ := S2.out.2.get
  clear hg2 G3 S3 HK hb1 hb2 hb3
  by_cases hg3 : 3 < gz.length
  · have hgi : (3 : Int) < (gz.length : Int) := by omega
    go_wp2_with fail
    exact bodyPost_ret (v := .tuple #[.slice none 0 0, .bool false, .int .i64 1]) (by simp [results, Try.results4, go_sem]) rfl (.inl ⟨hg3, rfl, G2.out⟩)
  · have hgi : ¬ (3 : Int) < (gz.length : Int) := by omega
    have hg3' : gz.length ≤ 3 := by omega
    have CT : Hid (Calls Try.prog 16 #[.slice a L.length d, .agg #[.int .i64 (gN : Int), .slice b' gz.length k']] w2 (TowPost L gN gz w2)) := towards_any L a d gN b' k' gz w2 (HP.out.grown G2.out) HGd.out (HGz.out.grown G2.out) hg3' HS.out.2 hgN
    go_wp2_with fail
    clear q0 q1 q2 q3
    refine CT.out.mono ?_
    rintro e w4 ⟨bm, E, rfl, hE, hT, hbm, hg4⟩
    have G4 : Hid (w.grownBy w4 none) := grown_trans G2.out hg4
    have S0 : Hid (SWy b1 b2 cN gN (.slice b zs.length k) (.slice b' gz.length k') w4) := S2.out.kept hg4
    have HE : Hid (∀ V, w4.grownBy V none → EdgesAt V bm E) := fun V hV => hE.kept hV (by simp)
    have HTw : Hid (TowP L gN gz E) := hT
    have HTop : Hid (Top E) := hE.top
    have hen : behC gN gz.length < 6 := by unfold behC; split <;> omega
    obtain ⟨en, hene⟩ : ∃ en, behC gN gz.length = en := ⟨_, rfl⟩
    have HEn : Hid (behC gN gz.length = en) := hene
    rw [hene] at hen
    have CE : Hid (∀ V, Calls Try.prog 18 #[.agg #[.int .i64 (gN : Int), .slice b' gz.length k']] V (Says (.int .i64 (en : Int)) V)) := fun V => by
      have := end_any gN gz.length k' b' V (by omega)
      rwa [hene] at this
    obtain ⟨row, hrow⟩ : ∃ row, readC E cN zs = row := ⟨_, rfl⟩
    have HRow : Hid (readC E cN zs = row) := hrow
    have CR : Hid (∀ V, w4.grownBy V none → Calls Try.prog 17 #[.map (some bm), .int .i64 (cN : Int), .slice b zs.length k] V (Says (rV row) V)) := fun V hV => by
      have := read_any bm cN E b k zs V (HE.out V hV) (by omega) (HZ.out.grown (grown_trans G4.out hV)) (by omega) HS.out.1
      rwa [hrow] at this
    have hix := fun V => index_six row hen V
    obtain ⟨C, hC⟩ : ∃ C, row en = C := ⟨_, rfl⟩
    have HCC : Hid (row en = C) := hC
    have hC2 : C ≤ 2002 := by rw [← hC, ← hrow]; exact readC_top _ _ _ _
    rw [hC] at hix
    have hei : (en : Int) < 6 := by omega
    clear hE hT hg4 G2 S2 CT hbm hene hrow hC
    go_wp2_with fail
    go_cut [34] (fun v wc => v = .int .i64 (C : Int) ∧ w4.grownBy wc none)
    case first =>
      refine wp_region_held_drew (S := SWy b1 b2 cN gN (.slice b zs.length k) (.slice b' gz.length k')) (by kernel_rfl) (S0.out.kept (grown_drew (grown_refl _ _))) (fun hHeld => ?_)
      refine wpAnyH_take (i := 0) (v := ?_) rfl (by kernel_rfl) (by kernel_rfl) (by kernel_rfl) (fun _ _ _ h => h) (Or.inl ⟨by rfl, ?_⟩) (by assumption) ?_
      rotate_left
      · intro W hSw
        obtain ⟨hb1, hb2⟩ := hSw
        obtain ⟨t1, t2⟩ := hb1.get
        obtain ⟨t3, t4⟩ := hb2.get
        clear hb1 hb2
        go_simp
        with_reducible rfl
      try simp only [Act.put, List.getElem_toArray, List.getElem_cons_succ, List.getElem_cons_zero, List.setIfInBounds_toArray, List.set_cons_zero, List.set_cons_succ]
      refine wpAnyH_take (i := 1) (v := ?_) rfl (by kernel_rfl) (by kernel_rfl) (by kernel_rfl) (fun _ _ _ h => h) (Or.inl ⟨by rfl, ?_⟩) (by assumption) ?_
      rotate_left
      · intro W hSw
        obtain ⟨hb1, hb2⟩ := hSw
        obtain ⟨t1, t2⟩ := hb1.get
        obtain ⟨t3, t4⟩ := hb2.get
        clear hb1 hb2
        go_simp
        with_reducible rfl
      try simp only [Act.put, List.getElem_toArray, List.getElem_cons_succ, List.getElem_cons_zero, List.setIfInBounds_toArray, List.set_cons_zero, List.set_cons_succ]
      refine wpAnyH_take (i := 2) (v := ?_) rfl (by kernel_rfl) (by kernel_rfl) (by kernel_rfl) (fun _ _ _ h => h) (Or.inl ⟨by rfl, ?_⟩) (by assumption) ?_
      rotate_left
      · intro W hSw
        obtain ⟨hb1, hb2⟩ := hSw
        obtain ⟨t1, t2⟩ := hb1.get
        obtain ⟨t3, t4⟩ := hb2.get
        clear hb1 hb2
        go_simp
        with_reducible rfl
      try simp only [Act.put, List.getElem_toArray, List.getElem_cons_succ, List.getElem_cons_zero, List.setIfInBounds_toArray, List.set_cons_zero, List.set_cons_succ]
      refine wpAnyH_take (i := 3) (v := ?_) rfl (by kernel_rfl) (by kernel_rfl) (by kernel_rfl) (fun _ _ _ h => h) (Or.inl ⟨by rfl, ?_⟩) (by assumption) ?_
      rotate_left
      · intro W hSw
        obtain ⟨hb1, hb2⟩ := hSw
        obtain ⟨t1, t2⟩ := hb1.get
        obtain ⟨t3, t4⟩ := hb2.get
        clear hb1 hb2
        go_simp
        with_reducible rfl
      try simp only [Act.put, List.getElem_toArray, List.getElem_cons_succ, List.getElem_cons_zero, List.setIfInBounds_toArray, List.set_cons_zero, List.set_cons_succ]
      refine wpAnyH_take (i := 4) (v := ?_) rfl (by kernel_rfl) (by kernel_rfl) (by kernel_rfl) (fun _ _ _ h => h) (Or.inl ⟨by rfl, ?_⟩) (by assumption) ?_
      rotate_left
      · intro W hSw
        obtain ⟨hb1, hb2⟩ := hSw
        obtain ⟨t1, t2⟩ := hb1.get
        obtain ⟨t3, t4⟩ := hb2.get
        clear hb1 hb2
        go_simp
        with_reducible rfl
      try simp only [Act.put, List.getElem_toArray, List.getElem_cons_succ, List.getElem_cons_zero, List.setIfInBounds_toArray, List.set_cons_zero, List.set_cons_succ]
      refine wpAnyH_take (i := 6) (v := ?_) rfl (by kernel_rfl) (by kernel_rfl) (by kernel_rfl) (fun _ _ _ h => h) (Or.inl ⟨by rfl, ?_⟩) (by assumption) ?_
      rotate_left
      · intro W hSw
        obtain ⟨hb1, hb2⟩ := hSw
        obtain ⟨t1, t2⟩ := hb1.get
        obtain ⟨t3, t4⟩ := hb2.get
        clear hb1 hb2
        go_simp
        with_reducible rfl
      try simp only [Act.put, List.getElem_toArray, List.getElem_cons_succ, List.getElem_cons_zero, List.setIfInBounds_toArray, List.set_cons_zero, List.set_cons_succ]
      refine wpAnyH_ready (rs := [5]) (by kernel_rfl) (by simp) ?_
      refine AllReadyH.cons (o := _) rfl (fun K' hK => ?_) ?_
      · go_simp
        refine (CR.out _ (grown_drew (grown_refl _ _))).mono ?_
        rintro e w7 ⟨rfl, hw7⟩
        go_wp2_with fail
        refine hK.out _ _ (hHeld.kept hw7) (fun hHeld => ?_)
        clear hK K'
        try simp only [Act.put, List.getElem_toArray, List.getElem_cons_succ, List.getElem_cons_zero, List.setIfInBounds_toArray, List.set_cons_zero, List.set_cons_succ]
        refine wpAnyH_ready (rs := [7]) (by kernel_rfl) (by simp) ?_
        refine AllReadyH.cons (o := _) rfl (fun K' hK => ?_) ?_
        · go_simp
          refine (CE.out _).mono ?_
          rintro e w8 ⟨rfl, hw8⟩
          go_wp2_with fail
          refine hK.out _ _ (hHeld.kept hw8) (fun hHeld => ?_)
          clear hK K'
          try simp only [Act.put, List.getElem_toArray, List.getElem_cons_succ, List.getElem_cons_zero, List.setIfInBounds_toArray, List.set_cons_zero, List.set_cons_succ]
          refine wpAnyH_take (i := 8) (v := ?_) rfl (by kernel_rfl) (by kernel_rfl) (by kernel_rfl) (fun _ _ _ h => h) (Or.inl ⟨by rfl, ?_⟩) (by assumption) ?_
          rotate_left
          · intro W hSw
            obtain ⟨hb1, hb2⟩ := hSw
            obtain ⟨t1, t2⟩ := hb1.get
            obtain ⟨t3, t4⟩ := hb2.get
            clear hb1 hb2
            go_simp
            with_reducible rfl
          try simp only [Act.put, List.getElem_toArray, List.getElem_cons_succ, List.getElem_cons_zero, List.setIfInBounds_toArray, List.set_cons_zero, List.set_cons_succ]
          refine wpAnyH_done (by kernel_rfl) ?_ _
          go_wp2_with fail
          go_meet
          case rel => exact ⟨rfl, grown_trans (grown_trans (grown_drew (grown_refl _ _)) hw7) hw8⟩
        exact AllReadyH.nil
      exact AllReadyH.nil
    case rest =>
      obtain ⟨rfl, hgc⟩ := hcut
      have GC : Hid (w.grownBy wc none) := grown_trans G4.out hgc
      have F : Hid (∀ ar n cr can y V, wc.grownBy V none → (C = 2002 → can = false ∧ y = 0 ∧ n = 0) → (C = 2001 → y = 7 ∧ can = false ∧ n = 0) → (C ≤ 2000 → can = true ∧ y = 0 ∧ ∃ rs, n = List.length rs ∧ Ints V ar rs ∧ rs.length ≤ 2000 ∧ RunsTo L rs ((cN : Int), zs) ((gN : Int), gz)) → (3 < gz.length ∧ Says (.tuple #[.slice none 0 0, .bool false, .int .i64 1]) w (.returned (.tuple #[.slice ar n cr, .bool can, .int .i64 y])) V) ∨ (gz.length ≤ 3 ∧ WayPost L cN gN zs gz w (.returned (.tuple #[.slice ar n cr, .bool can, .int .i64 y])) V)) := fun ar n cr can y V hV f1 f2 f3 => by
        refine .inr ⟨hg3', E, ar, n, cr, can, y, rfl, grown_trans GC.out hV, HTop.out, HTw.out, ?_⟩
        rw [HEn.out, HRow.out, HCC.out]
        exact ⟨f1, f2, f3⟩
      have Sc : Hid (SWy b1 b2 cN gN (.slice b zs.length k) (.slice b' gz.length k') wc) := S0.out.kept hgc
      have CWy : Hid (C ≤ 2000 → ∀ V, wc.grownBy V none → Calls Try.prog 19 #[.map (some bm), .slice a L.length d, .agg #[.int .i64 (cN : Int), .slice b zs.length k], .int .i64 (en : Int)] V (WayRun L ((cN : Int), zs) ((gN : Int), gz) V)) := fun hC V hV => way_full L bm cN en gN gz a d E b k zs V (HE.out V (grown_trans hgc hV)) HTw.out.2.1 HTw.out.1 HGd.out (HP.out.grown (grown_trans GC.out hV)) hcN (HZ.out.grown (grown_trans GC.out hV)) hcl HS.out.1 hen (by rw [HRow.out, HCC.out]; exact hC) hgN HS.out.2 HEn.out.symm HTw.out.2.2.2.2
      clear hgc CR hix S0
      by_cases hc1 : C = 2002
      · have e1 : ((C : Int) == 2002) = true := by rw [hc1]; rfl
        have F1 := F.out none 0 0 false 0 wc (grown_refl _ _) (fun _ => ⟨rfl, rfl, rfl⟩) (fun e => by omega) (fun e => by omega)
        have HF1 : Hid _ := F1
        clear F1 hc1
        go_wp2_with fail
        exact bodyPost_ret (v := .tuple #[.slice none 0 0, .bool false, .int .i64 0]) (by simp [results, Try.results4, go_sem]) rfl HF1.out
      · have e1 : ((C : Int) == 2002) = false := by simp; omega
        by_cases hc2 : C = 2001
        · have e2 : ((C : Int) == 2001) = true := by rw [hc2]; rfl
          have F1 := F.out none 0 0 false 7 wc (grown_refl _ _) (fun e => by omega) (fun _ => ⟨rfl, rfl, rfl⟩) (fun e => by omega)
          have HF1 : Hid _ := F1
          clear F1 hc1 hc2
          go_wp2_with fail
          exact bodyPost_ret (v := .tuple #[.slice none 0 0, .bool false, .int .i64 7]) (by simp [results, Try.results4, go_sem]) rfl HF1.out
        · have e2 : ((C : Int) == 2001) = false := by simp; omega
          have hc3 : C ≤ 2000 := by omega
          have F3 : Hid (∀ a9 rs9 c9 V, (Ints V a9 rs9 ∧ rs9.length ≤ 2000 ∧ RunsTo L rs9 ((cN : Int), zs) ((gN : Int), gz)) → wc.grownBy V none → (3 < gz.length ∧ Says (.tuple #[.slice none 0 0, .bool false, .int .i64 1]) w (.returned (.tuple #[.slice a9 rs9.length c9, .bool true, .int .i64 0])) V) ∨ (gz.length ≤ 3 ∧ WayPost L cN gN zs gz w (.returned (.tuple #[.slice a9 rs9.length c9, .bool true, .int .i64 0])) V)) := fun a9 rs9 c9 V hr hV => F.out a9 rs9.length c9 true 0 V hV (fun e => absurd e hc1) (fun e => absurd e hc2) (fun _ => ⟨rfl, rfl, rs9, rfl, hr.1, hr.2.1, hr.2.2⟩)
          have CW : Hid (∀ V, wc.grownBy V none → Calls Try.prog 19 #[.map (some bm), .slice a L.length d, .agg #[.int .i64 (cN : Int), .slice b zs.length k], .int .i64 (en : Int)] V (WayRun L ((cN : Int), zs) ((gN : Int), gz) V)) := CWy.out hc3
          have S0 : Hid (SWy b1 b2 cN gN (.slice b zs.length k) (.slice b' gz.length k') wc) := Sc.out
          clear hc1 hc2 hc3 CWy
          go_wp2_with fail
          refine wp_region_held_drew (S := SWy b1 b2 cN gN (.slice b zs.length k) (.slice b' gz.length k')) (by kernel_rfl) (S0.out.kept (grown_drew (grown_refl _ _))) (fun hHeld => ?_)
          refine wpAnyH_take (i := 0) (v := ?_) rfl (by kernel_rfl) (by kernel_rfl) (by kernel_rfl) (fun _ _ _ h => h) (Or.inl ⟨by rfl, ?_⟩) (by assumption) ?_
          rotate_left
          · intro W hSw
            obtain ⟨hb1, hb2⟩ := hSw
            obtain ⟨t1, t2⟩ := hb1.get
            obtain ⟨t3, t4⟩ := hb2.get
            clear hb1 hb2
            go_simp
            with_reducible rfl
          try simp only [Act.put, List.getElem_toArray, List.getElem_cons_succ, List.getElem_cons_zero, List.setIfInBounds_toArray, List.set_cons_zero, List.set_cons_succ]
          refine wpAnyH_take (i := 1) (v := ?_) rfl (by kernel_rfl) (by kernel_rfl) (by kernel_rfl) (fun _ _ _ h => h) (Or.inl ⟨by rfl, ?_⟩) (by assumption) ?_
          rotate_left
          · intro W hSw
            obtain ⟨hb1, hb2⟩ := hSw
            obtain ⟨t1, t2⟩ := hb1.get
            obtain ⟨t3, t4⟩ := hb2.get
            clear hb1 hb2
            go_simp
            with_reducible rfl
          try simp only [Act.put, List.getElem_toArray, List.getElem_cons_succ, List.getElem_cons_zero, List.setIfInBounds_toArray, List.set_cons_zero, List.set_cons_succ]
          refine wpAnyH_take (i := 2) (v := ?_) rfl (by kernel_rfl) (by kernel_rfl) (by kernel_rfl) (fun _ _ _ h => h) (Or.inl ⟨by rfl, ?_⟩) (by assumption) ?_
          rotate_left
          · intro W hSw
            obtain ⟨hb1, hb2⟩ := hSw
            obtain ⟨t1, t2⟩ := hb1.get
            obtain ⟨t3, t4⟩ := hb2.get
            clear hb1 hb2
            go_simp
            with_reducible rfl
          try simp only [Act.put, List.getElem_toArray, List.getElem_cons_succ, List.getElem_cons_zero, List.setIfInBounds_toArray, List.set_cons_zero, List.set_cons_succ]
          refine wpAnyH_take (i := 3) (v := ?_) rfl (by kernel_rfl) (by kernel_rfl) (by kernel_rfl) (fun _ _ _ h => h) (Or.inl ⟨by rfl, ?_⟩) (by assumption) ?_
          rotate_left
          · intro W hSw
            obtain ⟨hb1, hb2⟩ := hSw
            obtain ⟨t1, t2⟩ := hb1.get
            obtain ⟨t3, t4⟩ := hb2.get
            clear hb1 hb2
            go_simp
            with_reducible rfl
          try simp only [Act.put, List.getElem_toArray, List.getElem_cons_succ, List.getElem_cons_zero, List.setIfInBounds_toArray, List.set_cons_zero, List.set_cons_succ]
          refine wpAnyH_ready (rs := [4]) (by kernel_rfl) (by simp) ?_
          refine AllReadyH.cons (o := _) rfl (fun K' hK => ?_) ?_
          · go_simp
            refine (CE.out _).mono ?_
            rintro e w7 ⟨rfl, hw7⟩
            go_wp2_with fail
            refine hK.out _ _ (hHeld.kept hw7) (fun hHeld => ?_)
            clear hK K'
            try simp only [Act.put, List.getElem_toArray, List.getElem_cons_succ, List.getElem_cons_zero, List.setIfInBounds_toArray, List.set_cons_zero, List.set_cons_succ]
            refine wpAnyH_ready (rs := [5]) (by kernel_rfl) (by simp) ?_
            refine AllReadyH.cons (o := _) rfl (fun K' hK => ?_) ?_
            · go_simp
              refine (CW.out _ (grown_trans (grown_drew (grown_refl _ _)) hw7)).mono ?_
              rintro e w8 ⟨a9, rs9, c9, rfl, hI9, hl9, hR9, hw8⟩
              have HR9 : Hid (Ints w8 a9 rs9 ∧ rs9.length ≤ 2000 ∧ RunsTo L rs9 ((cN : Int), zs) ((gN : Int), gz)) := ⟨hI9, hl9, hR9⟩
              clear hI9 hl9 hR9
              go_wp2_with fail
              refine hK.out _ _ (hHeld.kept hw8) (fun hHeld => ?_)
              clear hK K'
              try simp only [Act.put, List.getElem_toArray, List.getElem_cons_succ, List.getElem_cons_zero, List.setIfInBounds_toArray, List.set_cons_zero, List.set_cons_succ]
              refine wpAnyH_take (i := 6) (v := ?_) rfl (by kernel_rfl) (by kernel_rfl) (by kernel_rfl) (fun _ _ _ h => h) (Or.inl ⟨by rfl, ?_⟩) (by assumption) ?_
              rotate_left
              · intro W hSw
                obtain ⟨hb1, hb2⟩ := hSw
                obtain ⟨t1, t2⟩ := hb1.get
                obtain ⟨t3, t4⟩ := hb2.get
                clear hb1 hb2
                go_simp
                with_reducible rfl
              try simp only [Act.put, List.getElem_toArray, List.getElem_cons_succ, List.getElem_cons_zero, List.setIfInBounds_toArray, List.set_cons_zero, List.set_cons_succ]
              refine wpAnyH_take (i := 7) (v := ?_) rfl (by kernel_rfl) (by kernel_rfl) (by kernel_rfl) (fun _ _ _ h => h) (Or.inl ⟨by rfl, ?_⟩) (by assumption) ?_
              rotate_left
              · intro W hSw
                obtain ⟨hb1, hb2⟩ := hSw
                obtain ⟨t1, t2⟩ := hb1.get
                obtain ⟨t3, t4⟩ := hb2.get
                clear hb1 hb2
                go_simp
                with_reducible rfl
              try simp only [Act.put, List.getElem_toArray, List.getElem_cons_succ, List.getElem_cons_zero, List.setIfInBounds_toArray, List.set_cons_zero, List.set_cons_succ]
              refine wpAnyH_take (i := 8) (v := ?_) rfl (by kernel_rfl) (by kernel_rfl) (by kernel_rfl) (fun _ _ _ h => h) (Or.inl ⟨by rfl, ?_⟩) (by assumption) ?_
              rotate_left
              · intro W hSw
                obtain ⟨hb1, hb2⟩ := hSw
                obtain ⟨t1, t2⟩ := hb1.get
                obtain ⟨t3, t4⟩ := hb2.get
                clear hb1 hb2
                go_simp
                with_reducible rfl
              try simp only [Act.put, List.getElem_toArray, List.getElem_cons_succ, List.getElem_cons_zero, List.setIfInBounds_toArray, List.set_cons_zero, List.set_cons_succ]
              refine wpAnyH_done (by kernel_rfl) ?_ _
              go_wp2_with fail
              exact bodyPost_ret (v := .tuple #[.slice a9 rs9.length c9, .bool true, .int .i64 0]) (by simp [results, Try.results4, go_sem]) rfl (F3.out _ _ _ _ HR9.out (grown_trans (grown_trans (grown_drew (grown_refl _ _)) hw7) hw8))
            exact AllReadyH.nil
          exact AllReadyH.nil

end Go.Proofs.Ytcgkflddipflbaa
