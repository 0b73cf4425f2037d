/- What a word makes of First; what it weighs. -/
import Derived.Test.YtjinibofbpgfjaaDoorNuBy
namespace Go.Proofs.YtjinibofbpgfjaaDoor
open Go.RowKit
set_option linter.unusedVariables false
set_option linter.unusedSimpArgs false

def SRo (bb : Nat) (v2 : Value) (bu ou : Nat) (vl : Value) (bs os : Nat) (vs : Value) (W : World) : Prop :=
  W.cell? ⟨bb, 2, none⟩ = some v2 ∧ W.cell? ⟨bu, ou, none⟩ = some vl ∧ W.cell? ⟨bs, os, none⟩ = some vs
theorem SRo.kept {bb bu ou bs os : Nat} {v2 vl vs : Value} {W W' : World} (h : SRo bb v2 bu ou vl bs os vs W) (k : W.grownBy W' none) : SRo bb v2 bu ou vl bs os vs W' := by
  obtain ⟨h0, h1, h2⟩ := h
  exact ⟨k.cell h0 (by simp), k.cell h1 (by simp), k.cell h2 (by simp)⟩
theorem rowF_take {x : WgI} {r : List Int} {ws : List Nat} {k : Nat} (hk : k < ws.length) : rowF x r (ws.take (k + 1)) = byW (rowF x r (ws.take k)) (tabW x (ws.getD k 0)) := by
  rw [List.take_add_one, List.getElem?_eq_getElem hk, List.getD_eq_getElem?_getD, List.getElem?_eq_getElem hk]
  exact rowF_snoc x r _ _

set_option maxHeartbeats 3200000 in
set_option maxRecDepth 100000 in
theorem row_any (x : WgI) (hx : GoodWg x) (ws : List Nat) (hws : ∀ l, l ∈ ws → l < x.S.length) (hl : ws.length ≤ 80) (a1 a2 a3 au : Option Addr) (c1 c2 c3 cu n nS nE nu : Nat) (w : World) (h : WgAt w x a1 a2 a3) (hu : Ints w au (ws.map fun l : Nat => (l : Int))) (e1 : x.F.length = n) (e2 : x.S.length = nS) (e3 : x.E.length = nE) (e4 : ws.length = nu) :
    Calls Tryd.prog 19 #[wgV x.L a1 n c1 a2 nS c2 a3 nE c3, .slice au nu cu] w (RowP (rowW x ws) w) := by
  obtain ⟨W1, hW1, g1, s1, bx⟩ := box4_new w x.L a1 n c1 a2 nS c2 a3 nE c3
  have HW1 : Hid (W1 = _) := hW1
  have G1 : Hid (w.grownBy W1 none) := g1
  have HT : Hid (WgAt W1 x a1 a2 a3) := h.grown g1
  have HU : Hid (Ints W1 au (ws.map fun l : Nat => (l : Int))) := hu.grown g1
  have HX : Hid (∀ W, W1.grownBy W none → Box4 W w.heap.size x.L a1 n c1 a2 nS c2 a3 nE c3) := fun W hW => bx.grown hW
  have HG : Hid (GoodWg x ∧ (∀ l, l ∈ ws → l < x.S.length) ∧ ws.length ≤ 80) := ⟨hx, hws, hl⟩
  have HE : Hid (x.F.length = n ∧ x.S.length = nS ∧ x.E.length = nE ∧ ws.length = nu) := ⟨e1, e2, e3, e4⟩
  have x1 := bx.b1
  rw [hW1] at x1
  have hn8 : n ≤ 8 := by rw [← e1]; exact hx.size.2
  have hnu : nu ≤ 80 := by omega
  have HLt : Hid (∀ k, k < nu → (ws.getD k 0) < nS) := fun k hk => by
    rw [← e2]
    refine hws _ ?_
    rw [List.getD_eq_getElem?_getD, List.getElem?_eq_getElem (by omega : k < ws.length)]
    exact List.getElem_mem _
  have HS4 : Hid (nS ≤ 4) := by have h1 := hx.shape.2.1; have h2 := hx.let_.2; show _ ≤ _; omega
  have HWd0 := wide_any x.F a1 n c1 W1 HT.out.first e1 (by omega) (fun z hz => by have := hx.within.1 z hz; omega)
  have HWd : Hid (Calls Tryd.prog 20 #[.slice a1 n c1] W1 (RowP x.F W1)) := HWd0
  obtain ⟨Po, hPo⟩ : ∃ P, P = RowP (rowW x ws) w := ⟨_, rfl⟩
  have HPo : Hid (Po = RowP (rowW x ws) w) := hPo
  rw [← hPo]
  clear hW1 g1 s1 bx h hu hx hws hl e1 e2 e3 e4 HWd0 hPo
  go_enter Tryd.func19, Tryd.ntmps19
  go_wp2_with fail
  rw [← HW1.out]
  clear x1
  refine HWd.out.mono ?_
  rintro E w2 ⟨a5, c5, q5, rfl, ho5, hq5⟩
  have hF : x.F.length = n := HE.out.1
  rw [hF]
  have H0 : Hid (OwnWh w w2 a5 c5 q5 ∧ q5.map WhQ.z = rowF x x.F (ws.take 0) ∧ W1.grownBy w2 none) := ⟨ho5.down G1.out, hq5, ho5.gr⟩
  clear ho5 hq5 HWd hF
  go_wp2_with fail
  go_loopw [6, 5] (fun v u W => ∃ (k : Nat) (a : Option Addr) (c : Nat) (qs : List WhQ), v = .int .i64 k ∧ u = .slice a n c ∧ k ≤ nu ∧ OwnWh w W a c qs ∧ qs.map WhQ.z = rowF x x.F (ws.take k) ∧ W1.grownBy W none) (fun v _ _ => nu - (intOf v).toNat)
  case atStart => exact ⟨0, a5, c5, q5, rfl, rfl, Nat.zero_le _, H0.out.1, H0.out.2.1, H0.out.2.2⟩
  case round =>
    clear H0
    obtain ⟨wi, hwi⟩ : ∃ W, W = wr := ⟨_, rfl⟩
    subst hwi
    obtain ⟨k, a, c, qs, rfl, rfl, hk, ho, hz, hg⟩ := hrel
    have HO : Hid (OwnWh w wi a c qs ∧ qs.map WhQ.z = rowF x x.F (ws.take k) ∧ W1.grownBy wi none) := ⟨ho, hz, hg⟩
    clear ho hz hg
    by_cases hlt : k < nu
    · have i1 : (k : Int) < (nu : Int) := by omega
      go_wp2_with fail
      obtain ⟨bu, ou, rfl, hcu⟩ := (HU.out.grown HO.out.2.2).at (k := k) (by rw [List.length_map]; have := HE.out.2.2.2; omega)
      have q1 := hcu k (by rw [List.length_map]; have := HE.out.2.2.2; omega)
      obtain ⟨l, hll⟩ : ∃ l, ws.getD k 0 = l := ⟨_, rfl⟩
      have ez : (ws.map fun l : Nat => (l : Int)).getD k 0 = (l : Int) := by
        rw [← hll]
        have hkw : k < ws.length := by have := HE.out.2.2.2; omega
        simp [List.getD, hkw]
      rw [ez] at q1
      have hlS : l < nS := by have := HLt.out k hlt; rw [hll] at this; exact this
      have hlx : l < x.S.length := by rw [HE.out.2.1]; exact hlS
      obtain ⟨b4, o4, rfl, hc4⟩ := (HT.out.step.grown HO.out.2.2).at hlx
      obtain ⟨r4, k4, q2, hr4, hm4⟩ := hc4 l hlx
      have sh := HG.out.1.shape.2.2 _ (tabW_mem hlx)
      have hT : (x.S.getD l []).length = n := by rw [← HE.out.1]; exact sh.1
      rw [hT] at q2
      have q0 := (HX.out wi HO.out.2.2).b2
      have il : (l : Int) < (nS : Int) := by omega
      have hql : qs.length = n := by
        have h1 := rowF_len HG.out.1.shape (w := ws.take k) (fun l hl => HG.out.2.1 l (List.mem_of_mem_take hl)) (r := x.F) rfl
        rw [← HO.out.2.1, List.length_map, HE.out.1] at h1
        exact h1
      have hbd := bd_row HG.out.1 (w := ws.take k) (fun l hl => HG.out.2.1 l (List.mem_of_mem_take hl)) (r := x.F) (k := 1) (bd_first HG.out.1.within.1)
      rw [← HO.out.2.1] at hbd
      have HBy0 : ∀ W, wi.grownBy W none → Calls Tryd.prog 33 #[.slice a n c, .slice r4 n k4] W (RowP (byW (qs.map WhQ.z) (tabW x l)) W) := fun W hW => by_any qs (tabW x l) a r4 c k4 n (1 + (ws.take k).length) W (HO.out.1.row.grown hW) (hr4.grown hW) hql hT (fun r hr => by rw [← HE.out.1]; exact sh.2 r hr) hn8 hbd (HG.out.1.within.2.2 _ (tabW_mem hlx)) (by rw [List.length_take]; omega)
      have HBy : Hid (∀ W, wi.grownBy W none → Calls Tryd.prog 33 #[.slice a n c, .slice r4 n k4] W (RowP (byW (qs.map WhQ.z) (tabW x l)) W)) := HBy0
      have HBL : Hid ((byW (qs.map WhQ.z) (tabW x l)).length = n) := by show _ = _; rw [byW_len]; exact hT
      have HN1 : Hid (byW (qs.map WhQ.z) (tabW x l) = rowF x x.F (ws.take (k + 1))) := by show _ = _; rw [rowF_take (by have := HE.out.2.2.2; omega), hll, HO.out.2.1]
      have S5 : Hid (SRo w.heap.size (.slice (some ⟨b4, o4, none⟩) nS c2) bu (ou + k) (.int .i64 (l : Int)) b4 (o4 + l) (.slice r4 n k4) wi) := ⟨q0, q1, q2⟩
      have GD : Hid (wi.grownBy wi.drew none) := grown_drew (grown_refl _ _)
      have HS : Hid (OwnWh w wi a c qs ∧ True) := ⟨HO.out.1, trivial⟩
      clear hcu hll ez hlx hc4 hr4 hm4 sh hT hql hbd HBy0 q0 q1 q2
      refine wp_region_held_drew (S := SRo w.heap.size (.slice (some ⟨b4, o4, none⟩) nS c2) bu (ou + k) (.int .i64 (l : Int)) b4 (o4 + l) (.slice r4 n k4)) (by kernel_rfl) (S5.out.kept (grown_drew (grown_refl _ _))) (fun hHeld => ?_)
      refine wpAnyH_take (i := 0) (v := ?_) rfl (by kernel_rfl) (by kernel_rfl) (by kernel_rfl) (fun _ _ _ h => h) (Or.inl ⟨by rfl, ?_⟩) (by assumption) ?_
      rotate_left
      · intro W hSw
        obtain ⟨q0, q1, q2⟩ := hSw
        go_simp
        with_reducible rfl
      try simp only [Act.put, List.getElem_toArray, List.getElem_cons_succ, List.getElem_cons_zero, List.setIfInBounds_toArray, List.set_cons_zero, List.set_cons_succ]
      refine wpAnyH_take (i := 1) (v := ?_) rfl (by kernel_rfl) (by kernel_rfl) (by kernel_rfl) (fun _ _ _ h => h) (Or.inl ⟨by rfl, ?_⟩) (by assumption) ?_
      rotate_left
      · intro W hSw
        obtain ⟨q0, q1, q2⟩ := hSw
        go_simp
        with_reducible rfl
      try simp only [Act.put, List.getElem_toArray, List.getElem_cons_succ, List.getElem_cons_zero, List.setIfInBounds_toArray, List.set_cons_zero, List.set_cons_succ]
      refine wpAnyH_take (i := 2) (v := ?_) rfl (by kernel_rfl) (by kernel_rfl) (by kernel_rfl) (fun _ _ _ h => h) (Or.inl ⟨by rfl, ?_⟩) (by assumption) ?_
      rotate_left
      · intro W hSw
        obtain ⟨q0, q1, q2⟩ := hSw
        go_simp
        with_reducible rfl
      try simp only [Act.put, List.getElem_toArray, List.getElem_cons_succ, List.getElem_cons_zero, List.setIfInBounds_toArray, List.set_cons_zero, List.set_cons_succ]
      refine wpAnyH_take (i := 3) (v := ?_) rfl (by kernel_rfl) (by kernel_rfl) (by kernel_rfl) (fun _ _ _ h => h) (Or.inl ⟨by rfl, ?_⟩) (by assumption) ?_
      rotate_left
      · intro W hSw
        obtain ⟨q0, q1, q2⟩ := hSw
        go_simp
        with_reducible rfl
      try simp only [Act.put, List.getElem_toArray, List.getElem_cons_succ, List.getElem_cons_zero, List.setIfInBounds_toArray, List.set_cons_zero, List.set_cons_succ]
      refine wpAnyH_take (i := 4) (v := ?_) rfl (by kernel_rfl) (by kernel_rfl) (by kernel_rfl) (fun _ _ _ h => h) (Or.inl ⟨by rfl, ?_⟩) (by assumption) ?_
      rotate_left
      · intro W hSw
        obtain ⟨q0, q1, q2⟩ := hSw
        go_simp
        with_reducible rfl
      try simp only [Act.put, List.getElem_toArray, List.getElem_cons_succ, List.getElem_cons_zero, List.setIfInBounds_toArray, List.set_cons_zero, List.set_cons_succ]
      refine wpAnyH_take (i := 5) (v := ?_) rfl (by kernel_rfl) (by kernel_rfl) (by kernel_rfl) (fun _ _ _ h => h) (Or.inl ⟨by rfl, ?_⟩) (by assumption) ?_
      rotate_left
      · intro W hSw
        obtain ⟨q0, q1, q2⟩ := hSw
        go_simp
        with_reducible rfl
      try simp only [Act.put, List.getElem_toArray, List.getElem_cons_succ, List.getElem_cons_zero, List.setIfInBounds_toArray, List.set_cons_zero, List.set_cons_succ]
      refine wpAnyH_take (i := 6) (v := ?_) rfl (by kernel_rfl) (by kernel_rfl) (by kernel_rfl) (fun _ _ _ h => h) (Or.inl ⟨by rfl, ?_⟩) (by assumption) ?_
      rotate_left
      · intro W hSw
        obtain ⟨q0, q1, q2⟩ := hSw
        go_simp
        with_reducible rfl
      try simp only [Act.put, List.getElem_toArray, List.getElem_cons_succ, List.getElem_cons_zero, List.setIfInBounds_toArray, List.set_cons_zero, List.set_cons_succ]
      refine wpAnyH_take (i := 7) (v := ?_) rfl (by kernel_rfl) (by kernel_rfl) (by kernel_rfl) (fun _ _ _ h => h) (Or.inl ⟨by rfl, ?_⟩) (by assumption) ?_
      rotate_left
      · intro W hSw
        obtain ⟨q0, q1, q2⟩ := hSw
        go_simp
        with_reducible rfl
      try simp only [Act.put, List.getElem_toArray, List.getElem_cons_succ, List.getElem_cons_zero, List.setIfInBounds_toArray, List.set_cons_zero, List.set_cons_succ]
      refine wpAnyH_take (i := 8) (v := ?_) rfl (by kernel_rfl) (by kernel_rfl) (by kernel_rfl) (fun _ _ _ h => h) (Or.inl ⟨by rfl, ?_⟩) (by assumption) ?_
      rotate_left
      · intro W hSw
        obtain ⟨q0, q1, q2⟩ := hSw
        go_simp
        with_reducible rfl
      try simp only [Act.put, List.getElem_toArray, List.getElem_cons_succ, List.getElem_cons_zero, List.setIfInBounds_toArray, List.set_cons_zero, List.set_cons_succ]
      refine wpAnyH_ready (rs := [9]) (by kernel_rfl) (by simp) ?_
      refine AllReadyH.cons (o := _) rfl (fun K' hK => ?_) ?_
      · go_simp
        refine (HBy.out _ GD.out).mono ?_
        rintro E w6 ⟨a6, c6, q6, rfl, ho6, hq6⟩
        have GI : Hid (wi.grownBy w6 none) := grown_trans GD.out ho6.gr
        have F6 : Hid (OwnWh w w6 a6 c6 q6 ∧ q6.map WhQ.z = rowF x x.F (ws.take (k + 1))) := ⟨ho6.down (grown_trans HS.out.1.gr GD.out), by rw [hq6, HN1.out]⟩
        have hl6 : (byW (qs.map WhQ.z) (tabW x l)).length = n := HBL.out
        rw [hl6]
        clear ho6 hq6 hl6
        go_wp2_with fail
        refine hK.out _ _ (S5.out.kept GI.out) (fun hHeld => ?_)
        clear hK K'
        try simp only [Act.put, List.getElem_toArray, List.getElem_cons_succ, List.getElem_cons_zero, List.setIfInBounds_toArray, List.set_cons_zero, List.set_cons_succ]
        refine wpAnyH_take (i := 10) (v := ?_) rfl (by kernel_rfl) (by kernel_rfl) (by kernel_rfl) (fun _ _ _ h => h) (Or.inl ⟨by rfl, ?_⟩) (by assumption) ?_
        rotate_left
        · intro W hSw
          obtain ⟨q0, q1, q2⟩ := hSw
          go_simp
          with_reducible rfl
        try simp only [Act.put, List.getElem_toArray, List.getElem_cons_succ, List.getElem_cons_zero, List.setIfInBounds_toArray, List.set_cons_zero, List.set_cons_succ]
        refine wpAnyH_done (by kernel_rfl) ?_ _
        go_wp2_with fail
        go_roundw
        case rel => exact ⟨k + 1, a6, c6, q6, by go_num, rfl, by omega, F6.out.1, F6.out.2, grown_trans HO.out.2.2 GI.out⟩
        case measure => simp [intOf]; omega
      exact AllReadyH.nil
    · have i1 : ¬ (k : Int) < (nu : Int) := by omega
      have F : Hid (Po (.returned (.slice a n c)) wi) := by
        show Po _ _
        rw [HPo.out]
        have hv := HO.out.2.1
        have e : ws.take k = ws := List.take_of_length_le (by have := HE.out.2.2.2; omega)
        rw [e] at hv
        have ek : n = (rowW x ws).length := by
          have := rowF_len HG.out.1.shape HG.out.2.1 (r := x.F) rfl
          rw [← HE.out.1]; exact this.symm
        exact ⟨a, c, qs, by rw [← ek], HO.out.1, hv⟩
      go_wp2_with fail
      first | exact F.out | (go_ret; exact F.out)
set_option maxHeartbeats 3200000 in
set_option maxRecDepth 100000 in
theorem value_any (x : WgI) (hx : GoodWg x) (ws : List Nat) (hws : ∀ l, l ∈ ws → l < x.S.length) (hl : ws.length ≤ 80) (a1 a2 a3 au : Option Addr) (c1 c2 c3 cu n nS nE nu : Nat) (w : World) (h : WgAt w x a1 a2 a3) (hu : Ints w au (ws.map fun l : Nat => (l : Int))) (e1 : x.F.length = n) (e2 : x.S.length = nS) (e3 : x.E.length = nE) (e4 : ws.length = nu) :
    Calls Tryd.prog 9 #[wgV x.L a1 n c1 a2 nS c2 a3 nE c3, .slice au nu cu] w (WhN (valW x ws) w) := by
  obtain ⟨W0, hW0, g0, s0, bx⟩ := box4_new w x.L a1 n c1 a2 nS c2 a3 nE c3
  obtain ⟨W1, hW1, g1, s1, _, hb⟩ := box2_new W0 false none 0 0
  rw [s0] at hb
  have HW1 : Hid (W1 = (w.alloc (wgO x.L a1 n c1 a2 nS c2 a3 nE c3)).alloc (whO false none 0 0)) := by show _ = _; rw [hW1, hW0]
  have G1 : Hid (w.grownBy W1 none) := grown_trans g0 g1
  have HS1 : Hid (W1.heap.size = w.heap.size + 1 + 1) := by show _ = _; omega
  have HX : Hid (∀ W, W1.grownBy W none → Box4 W w.heap.size x.L a1 n c1 a2 nS c2 a3 nE c3) := fun W hW => bx.grown (grown_trans g1 hW)
  have HB : Hid (∀ W, W1.grownBy W none → W.heap[w.heap.size + 1]? = some (.cells #[.bool false, .slice none 0 0] 32 (0, 0))) := fun W hW => (hW.block _ (by have := HS1.out; omega) (by simp)).trans hb
  have HRo : Hid (Calls Tryd.prog 19 #[wgV x.L a1 n c1 a2 nS c2 a3 nE c3, .slice au nu cu] W1 (RowP (rowW x ws) W1)) := row_any x hx ws hws hl a1 a2 a3 au c1 c2 c3 cu n nS nE nu W1 (h.grown G1.out) (hu.grown G1.out) e1 e2 e3 e4
  have hne : nE = n := by rw [← e3, ← e1]; exact hx.shape.1
  have hn8 : n ≤ 8 := by rw [← e1]; exact hx.size.2
  have HWd : Hid (∀ W, w.grownBy W none → Calls Tryd.prog 20 #[.slice a3 nE c3] W (RowP x.E W)) := fun W hW => wide_any x.E a3 nE c3 W (h.last.grown hW) e3 (by omega) (fun z hz => by have := hx.within.2.1 z hz; omega)
  have HG : Hid (GoodWg x ∧ BdW (rowW x ws) (1 + ws.length) ∧ (rowW x ws).length = n ∧ x.E.length = n ∧ ws.length ≤ 80) := ⟨hx, bd_row hx hws (bd_first hx.within.1), by rw [← e1]; exact rowF_len hx.shape hws rfl, by rw [e3, hne], hl⟩
  have x0 := (HX.out W1 (grown_refl _ _)).b0
  have x1 := (HX.out W1 (grown_refl _ _)).b1
  have x2 := (HX.out W1 (grown_refl _ _)).b2
  have x3 := (HX.out W1 (grown_refl _ _)).b3
  rw [HW1.out] at x0 x1 x2 x3
  obtain ⟨Po, hPo⟩ : ∃ P, P = WhN (valW x ws) w := ⟨_, rfl⟩
  have HPo : Hid (Po = WhN (valW x ws) w) := hPo
  rw [← hPo]
  clear hW0 hW1 g0 g1 s0 s1 bx hb h hu hx hws hl e1 e2 e3 e4 hPo hne
  go_enter Tryd.func9, Tryd.ntmps9
  go_wp2_with fail
  rw [← HW1.out]
  clear x0 x1 x2 x3
  refine HRo.out.mono ?_
  rintro E w2 ⟨a5, c5, q5, rfl, ho5, hq5⟩
  have hF := HG.out.2.2.1
  rw [hF]
  have H5 : Hid (RowWh w2 a5 q5 ∧ q5.map WhQ.z = rowW x ws ∧ W1.grownBy w2 none) := ⟨ho5.row, hq5, ho5.gr⟩
  have x3 := (HX.out w2 ho5.gr).b3
  clear ho5 hq5 HRo hF
  go_wp2_with fail
  clear x3
  refine (HWd.out w2 (grown_trans G1.out H5.out.2.2)).mono ?_
  rintro E w3 ⟨a6, c6, q6, rfl, ho6, hq6⟩
  have hF := HG.out.2.2.2.1
  rw [hF]
  have HD0 := dot_any q5 q6 a5 a6 c5 c6 n (1 + ws.length) w3 (H5.out.1.grown ho6.gr) ho6.row (by rw [← List.length_map (f := WhQ.z), H5.out.2.1, HG.out.2.2.1]) (by rw [← List.length_map (f := WhQ.z), hq6, hF]) hn8 (by rw [H5.out.2.1]; exact HG.out.2.1) (by rw [hq6]; exact HG.out.1.within.2.1) (by have := HG.out.2.2.2.2; omega)
  rw [hq6, H5.out.2.1] at HD0
  have HD : Hid (Calls Tryd.prog 21 #[.slice a5 n c5, .slice a6 n c6] w3 (WhN (valW x ws) w3)) := HD0
  have G3 : Hid (W1.grownBy w3 none) := grown_trans H5.out.2.2 ho6.gr
  clear HD0 ho6 hq6 hF HWd
  go_wp2_with fail
  refine HD.out.mono ?_
  rintro E w4 ⟨b7, a7, n7, c7, rfl, hwh, hn7, hg7, hnew⟩
  obtain ⟨⟨p0, p1⟩, fz, W9, hW9, g9, y0, y1, _⟩ := two_store (HB.out w4 (grown_trans G3.out hg7)) (.bool b7) (.slice a7 n7 c7)
  have HW9 : Hid (W9 = _) := hW9
  have F : Hid (Po (.returned (whV b7 a7 n7 c7)) W9) := by
    have h3 := G3.out.size
    have h1 := HS1.out
    show Po _ _
    rw [HPo.out]
    exact ⟨b7, a7, n7, c7, rfl, hwh.far g9 (fun y hy => by have := hnew y hy; omega), hn7, grown_new (grown_trans G1.out (grown_trans G3.out hg7)) g9 (by omega), fun y hy => by have := hnew y hy; omega⟩
  have f0 := fz 0
  have f1 := fz 1
  clear fz hW9 g9 hwh hn7 hg7 hnew HD
  go_wp2_with fail
  rw [← HW9.out]
  exact bodyPost_ret (v := whV b7 a7 n7 c7) (by simp [results, Tryd.results9, go_sem, y0, y1]) rfl F.out
end Go.Proofs.YtjinibofbpgfjaaDoor
