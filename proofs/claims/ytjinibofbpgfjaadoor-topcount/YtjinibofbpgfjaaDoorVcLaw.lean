/- TopCount: the law's walk. -/
import Derived.Test.YtjinibofbpgfjaaDoorVcMath
import Derived.Test.YtjinibofbpgfjaaDoorVaVal
import Derived.Test.YtjinibofbpgfjaaDoorDDigits
import Derived.Test.YtjinibofbpgfjaaDoorWeTab
import Derived.Test.YtjinibofbpgfjaaDoorWeBx
import Derived.BigRegion
import Derived.Deep.RegionWith
import Derived.Deep.RegionHeld3
import Derived.Deep.RegionLaw
import Derived.Deep.DeepCutAuto
namespace Go.Proofs.YtjinibofbpgfjaaDoor
open Go.RowKit
open Go.Lib (itoa decDigits)
set_option linter.unusedVariables false
set_option linter.unusedSimpArgs false

theorem zerosRow (W : World) (n : Nat) : RowN (W.alloc (.cells (Array.replicate n (Value.int .i64 0)) 3)) W.heap.size (List.replicate n 0) := by
  have hb := heap_alloc_new W (.cells (Array.replicate n (Value.int .i64 0)) 3)
  unfold RowN
  rw [hb]
  simp
theorem RowN.far {W W' : World} {g b : Nat} {l : List Int} (h : RowN W g l) (k : W.grownBy W' (some b)) (hb : g ≠ b) : RowN W' g l := (k.block _ (Array.getElem?_eq_some_iff.1 h).1 (by simpa using hb)).trans h
theorem BxW.kept {W W' : World} {k : Nat} {L : Int} {aF aS aE : Option Addr} {nF cF nS cS nE cE : Nat} (h : BxW W k L aF nF cF aS nS cS aE nE cE) (g : W.grownBy W' none) : BxW W' k L aF nF cF aS nS cS aE nE cE := ⟨(g.block _ (Array.getElem?_eq_some_iff.1 h.heap).1 (by simp)).trans h.heap⟩
theorem BxW.far {W W' : World} {k b : Nat} {L : Int} {aF aS aE : Option Addr} {nF cF nS cS nE cE : Nat} (h : BxW W k L aF nF cF aS nS cS aE nE cE) (g : W.grownBy W' (some b)) (hb : k ≠ b) : BxW W' k L aF nF cF aS nS cS aE nE cE := ⟨(g.block _ (Array.getElem?_eq_some_iff.1 h.heap).1 (by simpa using hb)).trans h.heap⟩
/-- What Count answers, whatever comes in. -/
theorem count_all (L S N : Int) (R : List (List Int)) (M : List Int) (a a' : Option Addr) (c c' : Nat) (w : World) (h : DetAt w ⟨L, S, R, M⟩ a a') (hT : Pow10 w) :
    ∃ z l, (z = 0 → ∃ Sn Nn : Nat, S = (Sn : Int) ∧ N = (Nn : Int) ∧ Nn ≤ 60 ∧ Good ⟨L, S, R, M⟩ ∧ l = decDigits (Dfa.cnt ⟨L, S, R, M⟩ Nn Sn)) ∧ ∀ W, w.grownBy W none → Calls Tryd.prog 11 #[.agg #[.int .i64 L, .int .i64 S, .slice a R.length c, .slice a' M.length c'], .int .i64 N] W (StrE z l W) := by
  by_cases hc : checkF ⟨L, S, R, M⟩ = 0
  · by_cases hN : N < 0 ∨ 60 < N
    · exact ⟨2, [], fun e => by omega, fun W hW => (count_range L S N R M a a' c c' W (h.grown hW) hc hN).mono fun e w' h => h⟩
    · have hG := good_of_check hc
      obtain ⟨Sn, hS⟩ : ∃ Sn : Nat, S = (Sn : Int) := ⟨S.toNat, by have := hG.s; simp only at this; omega⟩
      obtain ⟨Nn, rfl⟩ : ∃ Nn : Nat, N = (Nn : Int) := ⟨N.toNat, by omega⟩
      subst hS
      exact ⟨0, decDigits (Dfa.cnt ⟨L, Sn, R, M⟩ Nn Sn), fun _ => ⟨Sn, Nn, rfl, rfl, by omega, hG, rfl⟩, fun W hW => (count_any L Sn Nn R M a a' c c' W (h.grown hW) hc (by omega) (hT.grown hW)).mono fun e w' h => h⟩
  · exact ⟨_, [], fun e => absurd e hc, fun W hW => (count_bad L S N R M a a' c c' W (h.grown hW) hc).mono fun e w' h => h⟩
def SDb (k : Nat) (v : Value) (W : World) : Prop := W.cell? ⟨k, 3, none⟩ = some v
theorem SDb.kept {k : Nat} {v : Value} {W W' : World} (h : SDb k v W) (g : W.grownBy W' none) : SDb k v W' := g.cell h (by simp)
def SWg (k : Nat) (v1 v2 v3 : Value) (W : World) : Prop := W.cell? ⟨k, 0, none⟩ = some (.int .i64 1) ∧ W.cell? ⟨k, 1, none⟩ = some v1 ∧ W.cell? ⟨k, 2, none⟩ = some v2 ∧ W.cell? ⟨k, 3, none⟩ = some v3
theorem SWg.kept {k : Nat} {v1 v2 v3 : Value} {W W' : World} (h : SWg k v1 v2 v3 W) (g : W.grownBy W' none) : SWg k v1 v2 v3 W' := ⟨g.cell h.1 (by simp), g.cell h.2.1 (by simp), g.cell h.2.2.1 (by simp), g.cell h.2.2.2 (by simp)⟩
/-- The box and First are made. -/
def TcMid (W4 : World) (k : Nat) (a' : Option Addr) (m c' : Nat) (v : Value) (W : World) : Prop := ∃ kb sb, v = .pointer (some ⟨kb, 0, none⟩) ∧ BxW W kb 1 (some ⟨sb, 0, none⟩) k k none 0 0 a' m c' ∧ RowN W sb (List.replicate k 0) ∧ W4.heap.size ≤ kb ∧ W4.heap.size ≤ sb ∧ sb ≠ kb ∧ kb < W.heap.size ∧ sb < W.heap.size ∧ W4.grownBy W none
theorem may_zeros {N : Nat} (h : N ≤ 60) : mayF 1 (List.replicate N 0) = 0 := mayF_good (by omega) (by omega) (by rw [List.length_replicate]; exact h) (fun k hk => by
  have e : (List.replicate N (0 : Int)).getD k 0 = 0 := by simp [List.getD, List.getElem?_replicate]; split <;> rfl
  rw [e]; omega)
theorem dec8 : decDigits 8 = [56] := by rw [Go.Lib.decDigits, dif_pos (by omega)]; rfl

attribute [local go_sem ↓] appY_fold in
set_option maxHeartbeats 6400000 in
set_option maxRecDepth 100000 in
theorem topCount_walk (L S N : Int) (R : List (List Int)) (M : List Int) (a a' : Option Addr) (c c' : Nat) (w : World) (hD : DetAt w ⟨L, S, R, M⟩ a a') (hT : Pow10 w) :
    Calls Tryd.prog 4 #[.agg #[.int .i64 L, .int .i64 S, .slice a R.length c, .slice a' M.length c'], .int .i64 N] w (Says (.bool true) w) := by
  obtain ⟨A1, hA1⟩ : ∃ W, W = w.alloc (.cells #[.int .i64 L, .int .i64 S, .slice a R.length c, .slice a' M.length c'] 38) := ⟨_, rfl⟩
  obtain ⟨A2, hA2⟩ : ∃ W, W = A1.alloc (.cells #[.int .i64 0, .int .i64 0] 3) := ⟨_, rfl⟩
  obtain ⟨A3, hA3⟩ : ∃ W, W = A2.alloc (.cells #[.slice (some ⟨w.heap.size + 1, 0, none⟩) 2 2] 22) := ⟨_, rfl⟩
  obtain ⟨W4, hW4⟩ : ∃ W, W = A3.alloc (.cells #[.int .i64 1] 3) := ⟨_, rfl⟩
  have s1 : A1.heap.size = w.heap.size + 1 := by rw [hA1]; simp
  have s2 : A2.heap.size = w.heap.size + 1 + 1 := by rw [hA2]; simp [s1]
  have s3 : A3.heap.size = w.heap.size + 1 + 1 + 1 := by rw [hA3]; simp [s2]
  have g1 : w.grownBy A1 none := by rw [hA1]; exact grown_alloc _ _
  have g2 : A1.grownBy A2 none := by rw [hA2]; exact grown_alloc _ _
  have g3 : A2.grownBy A3 none := by rw [hA3]; exact grown_alloc _ _
  have g4 : A3.grownBy W4 none := by rw [hW4]; exact grown_alloc _ _
  have HW4 : Hid (W4 = (((w.alloc (.cells #[.int .i64 L, .int .i64 S, .slice a R.length c, .slice a' M.length c'] 38)).alloc (.cells #[.int .i64 0, .int .i64 0] 3)).alloc (.cells #[.slice (some ⟨w.heap.size + 1, 0, none⟩) 2 2] 22)).alloc (.cells #[.int .i64 1] 3)) := by show _ = _; rw [hW4, hA3, hA2, hA1]
  have G4 : Hid (w.grownBy W4 none) := grown_trans g1 (grown_trans g2 (grown_trans g3 g4))
  have b1 := heap_alloc_new w (.cells #[.int .i64 L, .int .i64 S, .slice a R.length c, .slice a' M.length c'] 38)
  rw [← hA1] at b1
  have BD : Hid (∀ W, W4.grownBy W none → W.cell? ⟨w.heap.size, 0, none⟩ = some (.int .i64 L) ∧ W.cell? ⟨w.heap.size, 1, none⟩ = some (.int .i64 S) ∧ W.cell? ⟨w.heap.size, 2, none⟩ = some (.slice a R.length c) ∧ W.cell? ⟨w.heap.size, 3, none⟩ = some (.slice a' M.length c')) := fun W hW => by
    have g := grown_trans g2 (grown_trans g3 (grown_trans g4 hW))
    have hc : ∀ k v, #[Value.int .i64 L, .int .i64 S, .slice a R.length c, .slice a' M.length c'][k]? = some v → W.cell? ⟨w.heap.size, k, none⟩ = some v := fun k v hv => g.cell (by rw [cell_of_row _ _ k _ _ (0, 0) b1]; exact hv) (by simp)
    exact ⟨hc 0 _ rfl, hc 1 _ rfl, hc 2 _ rfl, hc 3 _ rfl⟩
  have d0 : DetAt W4 ⟨2, (0 : Nat), [[0, 0]], [1]⟩ (some ⟨w.heap.size + 1 + 1, 0, none⟩) (some ⟨w.heap.size + 1 + 1 + 1, 0, none⟩) := by
    have b2 := heap_alloc_new A1 (.cells #[.int .i64 0, .int .i64 0] 3)
    have b3 := heap_alloc_new A2 (.cells #[.slice (some ⟨w.heap.size + 1, 0, none⟩) 2 2] 22)
    have b4 := heap_alloc_new A3 (.cells #[.int .i64 1] 3)
    rw [← hA2, s1] at b2
    rw [← hA3, s2] at b3
    rw [← hW4, s3] at b4
    refine ⟨.inr ⟨_, 0, rfl, fun i hi => ?_⟩, .inr ⟨_, 0, rfl, fun i hi => ?_⟩, by decide, by decide⟩
    · have : i = 0 := by have : i < 1 := hi; omega
      subst this
      refine ⟨some ⟨w.heap.size + 1, 0, none⟩, 2, g4.cell (by rw [cell_of_row _ _ 0 _ _ (0, 0) b3]; rfl) (by simp), .inr ⟨_, 0, rfl, fun j hj => ?_⟩, by decide⟩
      refine (grown_trans g3 g4).cell ?_ (by simp)
      have hj2 : j < 2 := hj
      rw [Nat.zero_add, cell_of_row _ _ j _ _ (0, 0) b2]
      rcases (show j = 0 ∨ j = 1 by omega) with rfl | rfl <;> rfl
    · have : i = 0 := by have : i < 1 := hi; omega
      subst this
      rw [cell_of_row _ _ 0 _ _ (0, 0) b4]
      rfl
  have HC1 : Hid (Calls Tryd.prog 11 #[.agg #[.int .i64 2, .int .i64 0, .slice (some ⟨w.heap.size + 1 + 1, 0, none⟩) 1 1, .slice (some ⟨w.heap.size + 1 + 1 + 1, 0, none⟩) 1 1], .int .i64 3] W4 (StrE 0 [56] W4)) := by
    have hh := count_any 2 0 3 [[0, 0]] [1] (some ⟨w.heap.size + 1 + 1, 0, none⟩) (some ⟨w.heap.size + 1 + 1 + 1, 0, none⟩) 1 1 W4 d0 (by decide) (by omega) (hT.grown G4.out)
    have e8 : Dfa.cnt ⟨2, ((0 : Nat) : Int), [[0, 0]], [1]⟩ 3 0 = 8 := by decide
    rw [e8, dec8] at hh
    exact hh
  obtain ⟨z, l, hzl, hCn⟩ := count_all L S N R M a a' c c' w hD hT
  have HCn : Hid (∀ W, w.grownBy W none → Calls Tryd.prog 11 #[.agg #[.int .i64 L, .int .i64 S, .slice a R.length c, .slice a' M.length c'], .int .i64 N] W (StrE z l W)) := hCn
  have HZL : Hid (z = 0 → ∃ Sn Nn : Nat, S = (Sn : Int) ∧ N = (Nn : Int) ∧ Nn ≤ 60 ∧ Good ⟨L, S, R, M⟩ ∧ l = decDigits (Dfa.cnt ⟨L, S, R, M⟩ Nn Sn)) := hzl
  have HDt : Hid (∀ W, w.grownBy W none → DetAt W ⟨L, S, R, M⟩ a a' ∧ Pow10 W) := fun W hW => ⟨hD.grown hW, hT.grown hW⟩
  have HSz : Hid (w.heap.size < W4.heap.size) := by have := g4.size; show _ < _; omega
  clear hA1 hA2 hA3 hW4 s1 s2 s3 g1 g2 g3 g4 b1 d0 hzl hCn hD hT
  go_enter Tryd.func4, Tryd.ntmps4
  go_wp2_with fail
  rw [← HW4.out]
  refine HC1.out.mono ?_
  rintro E w3 ⟨rfl, hg⟩
  have G3 : Hid (W4.grownBy w3 none) := hg
  obtain ⟨x0, x1, x2, x3⟩ := BD.out w3 hg
  clear hg HC1
  go_wp2_with fail
  clear x0 x1 x2 x3
  refine (HCn.out w3 (grown_trans G4.out G3.out)).mono ?_
  rintro E w5 ⟨rfl, hg⟩
  have G4w : Hid (W4.grownBy w5 none) := grown_trans G3.out hg
  clear hg HCn G3
  by_cases hz : z = 0
  · obtain ⟨Sn, Nn, rfl, rfl, h60, hG, rfl⟩ := HZL.out hz
    subst hz
    have HG : Hid (Good ⟨L, Sn, R, M⟩) := hG
    obtain ⟨k, hk⟩ : ∃ k, R.length = k := ⟨_, rfl⟩
    have hl4 := hG.l4
    have hl1 := hG.l1
    have hs := hG.s
    have hml := hG.ml
    simp only at hl4 hl1 hs hml
    rw [hk] at hs hml
    have HK : Hid (R.length = k ∧ M.length = k) := ⟨hk, hml⟩
    obtain ⟨x0, x1, x2, x3⟩ := BD.out w5 G4w.out
    rw [hk] at x2
    by_cases h8 : 8 < k
    · have i8 : (8 : Int) < (k : Int) := by omega
      have GF : Hid (w.grownBy w5 none) := grown_trans G4.out G4w.out
      clear hG hml hs HK
      go_wp2_with fail
      go_ret
      exact ⟨rfl, GF.out⟩
    · have i8 : ¬ (8 : Int) < (k : Int) := by omega
      have S1 : Hid (SDb w.heap.size (.slice a' M.length c') W4) := (BD.out W4 (grown_refl _ _)).2.2.2
      clear hG hk hml
      go_wp2_with fail
      clear x0 x1 x2 x3
      go_cut [8] (fun v wc => TcMid W4 k a' M.length c' v wc)
      case first =>
        refine wp_region_held_drew (S := SDb w.heap.size (.slice a' M.length c')) (by kernel_rfl) (S1.out.kept (grown_trans G4w.out (grown_drew (grown_refl _ _)))) (fun hHeld => ?_)
        obtain ⟨Wd, hWd⟩ : ∃ W, W = w5.drew := ⟨_, rfl⟩
        rw [← hWd] at hHeld ⊢
        have Gd : Hid (W4.grownBy Wd none) := by show World.grownBy _ _ _; rw [hWd]; exact grown_trans G4w.out (grown_drew (grown_refl _ _))
        clear hWd
        refine wpAnyH_take (i := 0) (v := ?_) rfl (by kernel_rfl) (by kernel_rfl) (by kernel_rfl) (fun _ _ _ h => h) (Or.inl ⟨by rfl, ?_⟩) (by assumption) ?_
        rotate_left
        · intro W hSw
          have q0 := hSw
          unfold SDb at q0
          go_simp
          with_reducible rfl
        try simp only [Act.put, List.getElem_toArray, List.getElem_cons_succ, List.getElem_cons_zero, List.setIfInBounds_toArray, List.set_cons_zero, List.set_cons_succ]
        refine wpAnyH_take (i := 2) (v := ?_) rfl (by kernel_rfl) (by kernel_rfl) (by kernel_rfl) (fun _ _ _ h => h) (Or.inl ⟨by rfl, ?_⟩) (by assumption) ?_
        rotate_left
        · intro W hSw
          have q0 := hSw
          unfold SDb at q0
          go_simp
          with_reducible rfl
        try simp only [Act.put, List.getElem_toArray, List.getElem_cons_succ, List.getElem_cons_zero, List.setIfInBounds_toArray, List.set_cons_zero, List.set_cons_succ]
        refine wpAnyH_take (i := 3) (v := ?_) rfl (by kernel_rfl) (by kernel_rfl) (by kernel_rfl) (fun _ _ _ h => h) (Or.inl ⟨by rfl, ?_⟩) (by assumption) ?_
        rotate_left
        · intro W hSw
          have q0 := hSw
          unfold SDb at q0
          go_simp
          with_reducible rfl
        try simp only [Act.put, List.getElem_toArray, List.getElem_cons_succ, List.getElem_cons_zero, List.setIfInBounds_toArray, List.set_cons_zero, List.set_cons_succ]
        refine wpAnyH_ready (rs := [1, 5]) (by kernel_rfl) (by simp) ?_
        refine AllReadyH.cons (o := _) rfl (fun K' hK => ?_) ?_
        · have hmk := make_intsN Wd k (by omega)
          go_simp
          obtain ⟨V1, hV⟩ : ∃ W, W = Wd.alloc (.cells (Array.replicate k (Value.int .i64 0)) 3) := ⟨_, rfl⟩
          rw [← hV]
          have gV : Wd.grownBy V1 none := by rw [hV]; exact grown_alloc _ _
          have G1 : Hid (W4.grownBy V1 none) := grown_trans Gd.out gV
          have HR1 : Hid (RowN V1 Wd.heap.size (List.replicate k 0) ∧ W4.heap.size ≤ Wd.heap.size ∧ Wd.heap.size < V1.heap.size) := ⟨by rw [hV]; exact zerosRow Wd k, Gd.out.size, by rw [hV]; simp⟩
          clear hV gV hmk
          refine hK.out _ _ (S1.out.kept G1.out) (fun hHeld => ?_)
          clear hK K'
          try simp only [Act.put, List.getElem_toArray, List.getElem_cons_succ, List.getElem_cons_zero, List.setIfInBounds_toArray, List.set_cons_zero, List.set_cons_succ]
          refine wpAnyH_take (i := 4) (v := ?_) rfl (by kernel_rfl) (by kernel_rfl) (by kernel_rfl) (fun _ _ _ h => h) (Or.inl ⟨by rfl, ?_⟩) (by assumption) ?_
          rotate_left
          · intro W hSw
            have q0 := hSw
            unfold SDb at q0
            go_simp
            with_reducible rfl
          try simp only [Act.put, List.getElem_toArray, List.getElem_cons_succ, List.getElem_cons_zero, List.setIfInBounds_toArray, List.set_cons_zero, List.set_cons_succ]
          refine wpAnyH_ready (rs := [5]) (by kernel_rfl) (by simp) ?_
          refine AllReadyH.cons (o := _) rfl (fun K' hK => ?_) ?_
          · go_simp
            obtain ⟨V5, hV⟩ : ∃ W, W = V1.alloc (wgO 0 none 0 0 none 0 0 none 0 0) := ⟨_, rfl⟩
            rw [← hV]
            have gV : V1.grownBy V5 none := by rw [hV]; exact grown_alloc _ _
            have G5 : Hid (W4.grownBy V5 none) := grown_trans G1.out gV
            have HB5 : Hid (V5.heap[V1.heap.size]? = some (.cells #[.int .i64 0, .slice none 0 0, .slice none 0 0, .slice none 0 0] 25 (0, 0)) ∧ W4.heap.size ≤ V1.heap.size ∧ V1.heap.size < V5.heap.size ∧ V1.heap.size ≠ Wd.heap.size) := ⟨by rw [hV]; exact heap_alloc_new _ _, G1.out.size, by rw [hV]; simp, by have := HR1.out.2.2; omega⟩
            have HR1 : Hid (RowN V5 Wd.heap.size (List.replicate k 0) ∧ W4.heap.size ≤ Wd.heap.size ∧ Wd.heap.size < V5.heap.size) := ⟨HR1.out.1.kept gV, HR1.out.2.1, Nat.lt_of_lt_of_le HR1.out.2.2 gV.size⟩
            clear hV gV
            refine hK.out _ _ (S1.out.kept G5.out) (fun hHeld => ?_)
            clear hK K'
            try simp only [Act.put, List.getElem_toArray, List.getElem_cons_succ, List.getElem_cons_zero, List.setIfInBounds_toArray, List.set_cons_zero, List.set_cons_succ]
            refine wpAnyH_ready (rs := [6]) (by kernel_rfl) (by simp) ?_
            refine AllReadyH.cons (o := _) rfl (fun K' hK => ?_) ?_
            · obtain ⟨⟨p0, p1, p2, p3⟩, fz, W9, hW9, g9, hb9⟩ := four_store HB5.out.1 (.int .i64 1) (.slice (some ⟨Wd.heap.size, 0, none⟩) k k) (.slice none 0 0) (.slice a' M.length c')
              have HW9 : Hid (W9 = _) := hW9
              have MB : Hid (TcMid W4 k a' M.length c' (.pointer (some ⟨V1.heap.size, 0, none⟩)) W9) := ⟨_, _, rfl, ⟨hb9⟩, (HR1.out.1.far g9 (by have := HB5.out.2.2.2; omega)), HB5.out.2.1, HR1.out.2.1, by have := HB5.out.2.2.2; omega, Nat.lt_of_lt_of_le HB5.out.2.2.1 g9.size, Nat.lt_of_lt_of_le HR1.out.2.2 g9.size, grown_new G5.out g9 HB5.out.2.1⟩
              have G9 : Hid (W4.grownBy W9 none) := grown_new G5.out g9 HB5.out.2.1
              have f0 := fz 0
              have f1 := fz 1
              have f2 := fz 2
              have f3 := fz 3
              clear fz hW9 g9 hb9
              go_simp
              rw [← HW9.out]
              refine hK.out _ _ (S1.out.kept G9.out) (fun hHeld => ?_)
              clear hK K'
              try simp only [Act.put, List.getElem_toArray, List.getElem_cons_succ, List.getElem_cons_zero, List.setIfInBounds_toArray, List.set_cons_zero, List.set_cons_succ]
              refine wpAnyH_done (by kernel_rfl) ?_ _
              go_wp2_with fail
              go_meet
              case rel => exact MB.out
            exact AllReadyH.nil
          exact AllReadyH.nil
        refine AllReadyH.cons (o := _) rfl (fun K' hK => ?_) ?_
        · go_simp
          obtain ⟨V5, hV⟩ : ∃ W, W = Wd.alloc (wgO 0 none 0 0 none 0 0 none 0 0) := ⟨_, rfl⟩
          rw [← hV]
          have gV : Wd.grownBy V5 none := by rw [hV]; exact grown_alloc _ _
          have G5 : Hid (W4.grownBy V5 none) := grown_trans Gd.out gV
          have HB5 : Hid (V5.heap[Wd.heap.size]? = some (.cells #[.int .i64 0, .slice none 0 0, .slice none 0 0, .slice none 0 0] 25 (0, 0)) ∧ W4.heap.size ≤ Wd.heap.size ∧ Wd.heap.size < V5.heap.size) := ⟨by rw [hV]; exact heap_alloc_new _ _, Gd.out.size, by rw [hV]; simp⟩
          clear hV gV
          refine hK.out _ _ (S1.out.kept G5.out) (fun hHeld => ?_)
          clear hK K'
          try simp only [Act.put, List.getElem_toArray, List.getElem_cons_succ, List.getElem_cons_zero, List.setIfInBounds_toArray, List.set_cons_zero, List.set_cons_succ]
          refine wpAnyH_ready (rs := [1]) (by kernel_rfl) (by simp) ?_
          refine AllReadyH.cons (o := _) rfl (fun K' hK => ?_) ?_
          · have hmk := make_intsN V5 k (by omega)
            go_simp
            obtain ⟨V1, hV⟩ : ∃ W, W = V5.alloc (.cells (Array.replicate k (Value.int .i64 0)) 3) := ⟨_, rfl⟩
            rw [← hV]
            have gV : V5.grownBy V1 none := by rw [hV]; exact grown_alloc _ _
            have G1 : Hid (W4.grownBy V1 none) := grown_trans G5.out gV
            have HR1 : Hid (RowN V1 V5.heap.size (List.replicate k 0) ∧ W4.heap.size ≤ V5.heap.size ∧ V5.heap.size < V1.heap.size) := ⟨by rw [hV]; exact zerosRow V5 k, G5.out.size, by rw [hV]; simp⟩
            have HB5 : Hid (V1.heap[Wd.heap.size]? = some (.cells #[.int .i64 0, .slice none 0 0, .slice none 0 0, .slice none 0 0] 25 (0, 0)) ∧ W4.heap.size ≤ Wd.heap.size ∧ Wd.heap.size < V1.heap.size ∧ Wd.heap.size ≠ V5.heap.size) := ⟨(gV.block _ HB5.out.2.2 (by simp)).trans HB5.out.1, HB5.out.2.1, Nat.lt_of_lt_of_le HB5.out.2.2 gV.size, by have := HB5.out.2.2; omega⟩
            clear hV gV hmk
            refine hK.out _ _ (S1.out.kept G1.out) (fun hHeld => ?_)
            clear hK K'
            try simp only [Act.put, List.getElem_toArray, List.getElem_cons_succ, List.getElem_cons_zero, List.setIfInBounds_toArray, List.set_cons_zero, List.set_cons_succ]
            refine wpAnyH_take (i := 4) (v := ?_) rfl (by kernel_rfl) (by kernel_rfl) (by kernel_rfl) (fun _ _ _ h => h) (Or.inl ⟨by rfl, ?_⟩) (by assumption) ?_
            rotate_left
            · intro W hSw
              have q0 := hSw
              unfold SDb at q0
              go_simp
              with_reducible rfl
            try simp only [Act.put, List.getElem_toArray, List.getElem_cons_succ, List.getElem_cons_zero, List.setIfInBounds_toArray, List.set_cons_zero, List.set_cons_succ]
            refine wpAnyH_ready (rs := [6]) (by kernel_rfl) (by simp) ?_
            refine AllReadyH.cons (o := _) rfl (fun K' hK => ?_) ?_
            · obtain ⟨⟨p0, p1, p2, p3⟩, fz, W9, hW9, g9, hb9⟩ := four_store HB5.out.1 (.int .i64 1) (.slice (some ⟨V5.heap.size, 0, none⟩) k k) (.slice none 0 0) (.slice a' M.length c')
              have HW9 : Hid (W9 = _) := hW9
              have MB : Hid (TcMid W4 k a' M.length c' (.pointer (some ⟨Wd.heap.size, 0, none⟩)) W9) := ⟨_, _, rfl, ⟨hb9⟩, (HR1.out.1.far g9 (by have := HB5.out.2.2.2; omega)), HB5.out.2.1, HR1.out.2.1, by have := HB5.out.2.2.2; omega, Nat.lt_of_lt_of_le HB5.out.2.2.1 g9.size, Nat.lt_of_lt_of_le HR1.out.2.2 g9.size, grown_new G1.out g9 HB5.out.2.1⟩
              have G9 : Hid (W4.grownBy W9 none) := grown_new G1.out g9 HB5.out.2.1
              have f0 := fz 0
              have f1 := fz 1
              have f2 := fz 2
              have f3 := fz 3
              clear fz hW9 g9 hb9
              go_simp
              rw [← HW9.out]
              refine hK.out _ _ (S1.out.kept G9.out) (fun hHeld => ?_)
              clear hK K'
              try simp only [Act.put, List.getElem_toArray, List.getElem_cons_succ, List.getElem_cons_zero, List.setIfInBounds_toArray, List.set_cons_zero, List.set_cons_succ]
              refine wpAnyH_done (by kernel_rfl) ?_ _
              go_wp2_with fail
              go_meet
              case rel => exact MB.out
            exact AllReadyH.nil
          exact AllReadyH.nil
        exact AllReadyH.nil
      case rest =>
        clear S1
        rename World => wc
        obtain ⟨kb, sb, rfl, hbx, hrw, hkb, hsb, hne, hkl, hsl, hgc⟩ := hcut
        obtain ⟨sn, hsn⟩ : ∃ sn, Sn = sn := ⟨_, rfl⟩
        have hSk : Sn < k := by omega
        have hSi : (Sn : Int) < (k : Int) := by omega
        have bx1 := hbx.box.1.b1
        have hc0 := hrw.cell (i := Sn) (by rw [List.length_replicate]; exact hSk)
        have q0 := hc0.1
        have q1 := hc0.2
        have y1 := (BD.out wc hgc).2.1
        obtain ⟨wf, hwf⟩ : ∃ W, W = wc.setCell ⟨sb, Sn, none⟩ (.int .i64 1) := ⟨_, rfl⟩
        have gs : wc.grownBy wf (some sb) := by rw [hwf]; exact grown_set _ _ _
        have HWf : Hid (wf = wc.setCell ⟨sb, Sn, none⟩ (.int .i64 1)) := hwf
        have HB : Hid (BxW wf kb 1 (some ⟨sb, 0, none⟩) k k none 0 0 a' M.length c' ∧ RowN wf sb ((List.replicate k 0).set Sn 1) ∧ W4.grownBy wf none ∧ kb < wf.heap.size ∧ sb < wf.heap.size ∧ sb ≠ kb ∧ W4.heap.size ≤ kb ∧ W4.heap.size ≤ sb) := ⟨hbx.far gs (fun e => hne e.symm), by rw [hwf]; exact hrw.set _ _, grown_new hgc gs hsb, Nat.lt_of_lt_of_le hkl gs.size, Nat.lt_of_lt_of_le hsl gs.size, hne, hkb, hsb⟩
        clear hbx hrw hkb hsb hne hkl hsl hgc hc0 hwf gs hsn
        go_wp2_with fail
        rw [← HWf.out]
        clear bx1 q0 q1 y1
        go_loopw [10, 9] (fun p v W => ∃ (q : Nat) (t : Option Addr) (ct : Nat) (ps : List Wrd), p = .int .i64 q ∧ v = .slice t q ct ∧ q ≤ k ∧ RowsO wf.heap.size W.heap.size W t ct ps ∧ ps.length = q ∧ wdL ps = (List.range q).map (fun q => rowC ⟨L, Sn, R, M⟩ q L.toNat) ∧ wf.grownBy W none) (fun p _ _ => k - (intOf p).toNat)
        case atStart => exact ⟨0, none, 0, [], rfl, rfl, Nat.zero_le _, RowsO.nil, rfl, rfl, grown_refl _ _⟩
        case round =>
          obtain ⟨wi, hwi⟩ : ∃ W, W = wr := ⟨_, rfl⟩
          subst hwi
          obtain ⟨q, t, ct, ps, rfl, rfl, hq, ho, hpl, hw, hg⟩ := hrel
          have HO : Hid (RowsO wf.heap.size wi.heap.size wi t ct ps ∧ ps.length = q ∧ wdL ps = (List.range q).map (fun q => rowC ⟨L, Sn, R, M⟩ q L.toNat) ∧ wf.grownBy wi none) := ⟨ho, hpl, hw, hg⟩
          clear ho hpl hw hg
          by_cases hlt : q < k
          · have io : (q : Int) < (k : Int) := by omega
            have hmk := make_intsN wi k (by omega)
            obtain ⟨wq, hwq⟩ : ∃ W, W = wi.alloc (.cells (Array.replicate k (Value.int .i64 0)) 3) := ⟨_, rfl⟩
            have HWq : Hid (wq = wi.alloc (.cells (Array.replicate k (Value.int .i64 0)) 3)) := hwq
            have gq : wi.grownBy wq none := by rw [hwq]; exact grown_alloc _ _
            have HQ : Hid (RowN wq wi.heap.size (rowC ⟨L, Sn, R, M⟩ q 0) ∧ wi.grownBy wq none) := ⟨by rw [rowC_zero, hwq]; show RowN _ _ (List.replicate R.length 0); rw [HK.out.1]; exact zerosRow wi k, gq⟩
            clear hwq gq
            go_wp2_with fail
            rw [← HWq.out]
            clear hmk
            go_loopw [12] (fun p W => ∃ l : Nat, p = .int .i64 l ∧ (l : Int) ≤ L ∧ RowN W wi.heap.size (rowC ⟨L, Sn, R, M⟩ q l) ∧ wi.grownBy W none) (fun p _ => L.toNat - (intOf p).toNat)
            case atStart => exact ⟨0, rfl, by omega, HQ.out.1, HQ.out.2⟩
            case round =>
              clear HQ
              obtain ⟨wl, hwl⟩ : ∃ W, W = wr := ⟨_, rfl⟩
              subst hwl
              obtain ⟨l, rfl, hl, hr, hg⟩ := hrel
              have HL : Hid (RowN wl wi.heap.size (rowC ⟨L, Sn, R, M⟩ q l) ∧ wi.grownBy wl none) := ⟨hr, hg⟩
              clear hr hg
              have G4l : Hid (W4.grownBy wl none) := grown_trans HB.out.2.2.1 (grown_trans HO.out.2.2.2 HL.out.2)
              obtain ⟨x0, x1, x2, x3⟩ := BD.out wl G4l.out
              rw [HK.out.1] at x2
              by_cases hll : (l : Int) < L
              · have hqR : q < R.length := by rw [HK.out.1]; exact hlt
                obtain ⟨b5, o5, b6, o6, c6, ha5, q5, q6⟩ := step_reads (HDt.out wl (grown_trans G4.out G4l.out)).1 HG.out hqR hll
                have hnx := HG.out.nx_lt hqR (show l < L.toNat by omega)
                have hlc := cntl_le ⟨L, Sn, R, M⟩ q l (Dfa.nx ⟨L, Sn, R, M⟩ q l)
                obtain ⟨nx, hnx2⟩ : ∃ n, Dfa.nx ⟨L, Sn, R, M⟩ q l = n := ⟨_, rfl⟩
                rw [hnx2] at q6 hnx hlc
                simp only at hnx
                have hrc := HL.out.1.cell (i := nx) (by rw [rowC_len]; exact hnx)
                rw [rowC_get _ _ _ hnx] at hrc
                have q7 := hrc.1
                have q8 := hrc.2
                obtain ⟨m, hm⟩ : ∃ m, cntl ⟨L, Sn, R, M⟩ q l nx = m := ⟨_, rfl⟩
                rw [hm] at q7 hlc
                have HS : Hid (RowN (wl.setCell ⟨wi.heap.size, nx, none⟩ (.int .i64 ((m : Int) + 1))) wi.heap.size (rowC ⟨L, Sn, R, M⟩ q (l + 1)) ∧ wi.grownBy (wl.setCell ⟨wi.heap.size, nx, none⟩ (.int .i64 ((m : Int) + 1))) none) := by
                  refine ⟨?_, grown_new HL.out.2 (grown_set _ _ _) (Nat.le_refl _)⟩
                  have h := HL.out.1.set nx ((m : Int) + 1)
                  have e := rowC_set ⟨L, Sn, R, M⟩ q l
                  rw [hnx2, rowC_get _ _ _ hnx, hm] at e
                  rw [e] at h
                  exact h
                have i5 : (nx : Int) < (k : Int) := by rw [HK.out.1] at hnx; omega
                have i6 : (l : Int) < (L.toNat : Int) := by omega
                have HA5 : Hid (a = some ⟨b5, o5, none⟩) := ha5
                rw [ha5] at x2
                clear hnx hnx2 hrc hm ha5 hqR
                go_wp2_with fail
                go_roundw
                case rel => exact ⟨l + 1, by go_num, by omega, HS.out⟩
                case measure => simp [intOf]; omega
              · have el : l = L.toNat := by omega
                have hr := HL.out.1
                rw [el] at hr
                obtain ⟨a7, c7, w7, hrun, ho7, hs7, hf7⟩ := HO.out.1.one HO.out.2.1 (by omega) HO.out.2.2.2.size (Nat.le_refl _) HL.out.2 (some ⟨wi.heap.size, 0, none⟩, k, rowC ⟨L, Sn, R, M⟩ q L.toNat) hr.ints (by rw [rowC_len]; show R.length ≤ 1000; rw [HK.out.1]; omega) (fun y hy => by cases hy; exact Nat.le_refl _)
                have hlen : (rowC ⟨L, Sn, R, M⟩ q L.toNat).length = k := by rw [rowC_len]; exact HK.out.1
                simp only [wdV, hlen] at hrun
                have HO7 : Hid (RowsO wf.heap.size w7.heap.size w7 a7 c7 (ps ++ [(some ⟨wi.heap.size, 0, none⟩, k, rowC ⟨L, Sn, R, M⟩ q L.toNat)]) ∧ (ps ++ [((some ⟨wi.heap.size, 0, none⟩, k, rowC ⟨L, Sn, R, M⟩ q L.toNat) : Wrd)]).length = q + 1 ∧ wdL (ps ++ [(some ⟨wi.heap.size, 0, none⟩, k, rowC ⟨L, Sn, R, M⟩ q L.toNat)]) = (List.range (q + 1)).map (fun q => rowC ⟨L, Sn, R, M⟩ q L.toNat) ∧ wf.grownBy w7 none) := by
                  refine ⟨ho7, by rw [List.length_append, HO.out.2.1]; rfl, ?_, hf7 wf (Nat.le_refl _) (grown_trans HO.out.2.2.2 HL.out.2)⟩
                  rw [List.range_succ, List.map_append, ← HO.out.2.2.1]
                  simp [wdL]
                clear el hr ho7 hs7 hf7 hlen
                go_wp2_with fail
                go_roundw
                case rel => exact ⟨q + 1, a7, c7, _, by go_num, rfl, by omega, HO7.out⟩
                case measure => simp [intOf]; omega
          · have io : ¬ (q : Int) < (k : Int) := by omega
            have eq : q = k := by omega
            obtain ⟨tb, htb⟩ : ∃ tb, wi.heap.size = tb := ⟨_, rfl⟩
            obtain ⟨wy, hwy⟩ : ∃ W, W = wi.alloc (.cells #[.slice t q ct] 36) := ⟨_, rfl⟩
            have gy : wi.grownBy wy none := by rw [hwy]; exact grown_alloc _ _
            have hby := heap_alloc_new wi (.cells #[.slice t q ct] 36)
            rw [← hwy, htb] at hby
            have hbx := HB.out.1.kept (grown_trans HO.out.2.2.2 gy)
            have z2 := hbx.box.1.b2
            have f2 := hbx.box.2 2
            have bst := hbx.step (some ⟨tb, 0, none⟩) 1 1
            obtain ⟨wz, hwz⟩ : ∃ W, W = wy.setCell ⟨kb, 2, none⟩ (.slice (some ⟨tb, 0, none⟩) 1 1) := ⟨_, rfl⟩
            rw [← hwz] at bst
            have gz : wy.grownBy wz (some kb) := by rw [hwz]; exact grown_set _ _ _
            have hkt0 : kb < wi.heap.size := by have := HB.out.2.2.2.1; have := HO.out.2.2.2.size; omega
            have HWz : Hid (wz = (wi.setCell ⟨kb, 2, none⟩ (.slice (some ⟨tb, 0, none⟩) 1 1)).alloc (.cells #[.slice t q ct] 36)) := by show _ = _; rw [hwz, hwy]; exact World.setCell_alloc_past _ _ _ _ hkt0
            have gfy : wf.grownBy wy none := grown_trans HO.out.2.2.2 gy
            have GZ : Hid (w.grownBy wz none) := grown_new (grown_trans G4.out (grown_trans HB.out.2.2.1 gfy)) gz (by have := HB.out.2.2.2.2.2.2.1; have := G4.out.size; omega)
            have hkt : kb < tb := by have := HB.out.2.2.2.1; have := HO.out.2.2.2.size; omega
            have hFz : RowN wz sb ((List.replicate k 0).set Sn 1) := (HB.out.2.1.kept gfy).far gz HB.out.2.2.2.2.2.1
            have hRz := (HO.out.1.kept gy).far gz (.inl (HB.out.2.2.2.1))
            have hTz : wz.cell? ⟨tb, 0, none⟩ = some (.slice t q ct) := gz.cell (by rw [cell_of_row _ _ 0 _ _ (0, 0) hby]; rfl) (by simp; omega)
            have hrows := hRz.rows
            rw [HO.out.2.2.1, eq] at hrows
            have htab : (List.range k).map (fun q => rowC ⟨L, Sn, R, M⟩ q L.toNat) = tabC ⟨L, Sn, R, M⟩ := by unfold tabC; show _ = (List.range R.length).map _; rw [HK.out.1]
            rw [htab] at hrows
            have hgd := wOf_good HG.out (by show R.length ≤ 8; rw [HK.out.1]; omega)
            have eF : (wOf ⟨L, Sn, R, M⟩).F = (List.replicate k 0).set Sn 1 := by show (List.replicate R.length 0).set ((Sn : Int).toNat) 1 = _; rw [HK.out.1]; rfl
            have hWg : WgAt wz (wOf ⟨L, Sn, R, M⟩) (some ⟨sb, 0, none⟩) (some ⟨tb, 0, none⟩) a' := by
              refine ⟨by rw [eF]; exact hFz.ints, .inr ⟨tb, 0, rfl, fun i hi => ?_⟩, (HDt.out wz GZ.out).1.marks, by rw [eF, List.length_set, List.length_replicate]; unfold maxLen; omega, by show 1 ≤ maxLen; unfold maxLen; omega, (HDt.out wz GZ.out).1.mm⟩
              have : i = 0 := by have : i < 1 := hi; omega
              subst this
              refine ⟨t, ct, ?_, hrows, ?_⟩
              · show wz.cell? ⟨tb, 0 + 0, none⟩ = some (.slice t (tabC ⟨L, Sn, R, M⟩).length ct)
                rw [tabC_len]
                show _ = some (Value.slice t R.length ct)
                rw [HK.out.1, ← eq]
                exact hTz
              · show (tabC ⟨L, Sn, R, M⟩).length ≤ maxLen
                rw [tabC_len]
                show R.length ≤ maxLen
                rw [HK.out.1]; unfold maxLen; omega
            have hFl : (wOf ⟨L, Sn, R, M⟩).F.length = k := by rw [eF]; simp
            have HVa : Hid (∀ W b, wz.grownBy W none → Ints W (some ⟨b, 0, none⟩) (List.replicate Nn 0) → Calls Tryd.prog 7 #[.agg #[.int .i64 1, .slice (some ⟨sb, 0, none⟩) k k, .slice (some ⟨tb, 0, none⟩) 1 1, .slice a' M.length c'], .slice (some ⟨b, 0, none⟩) Nn Nn] W (StrE 0 (decDigits (Dfa.cnt ⟨L, Sn, R, M⟩ Nn Sn)) W)) := fun W b hW hi => by
              have h := valueP_any (wOf ⟨L, Sn, R, M⟩) (List.replicate Nn 0) (some ⟨sb, 0, none⟩) (some ⟨tb, 0, none⟩) a' (some ⟨b, 0, none⟩) k 1 c' Nn W (hWg.grown hW) hi (by rw [List.length_replicate]; unfold maxLen; omega) (HDt.out W (grown_trans GZ.out hW)).2
              have e0 : valZ (wOf ⟨L, Sn, R, M⟩) (List.replicate Nn 0) = 0 := by unfold valZ; rw [check_good.2 hgd, if_neg (by omega)]; exact may_zeros h60
              have e1 : valS (wOf ⟨L, Sn, R, M⟩) (List.replicate Nn 0) = decDigits (Dfa.cnt ⟨L, Sn, R, M⟩ Nn Sn) := by
                unfold valS
                rw [if_pos e0]
                have em : (List.replicate Nn (0 : Int)).map Int.toNat = List.replicate Nn 0 := by simp
                rw [em, wOf_val HG.out Nn, Go.Lib.itoa_nonneg]
                rfl
              rw [e0, e1, hFl, List.length_replicate] at h
              exact h
            have S2 : Hid (SWg kb (.slice (some ⟨sb, 0, none⟩) k k) (.slice (some ⟨tb, 0, none⟩) 1 1) (.slice a' M.length c') wz) := ⟨bst.box.1.b0, bst.box.1.b1, bst.box.1.b2, bst.box.1.b3⟩
            obtain ⟨dd, hdd⟩ : ∃ d, decDigits (Dfa.cnt ⟨L, Sn, R, M⟩ Nn Sn) = d := ⟨_, rfl⟩
            rw [hdd] at HVa ⊢
            rw [hwy] at z2 f2
            clear hwy gy hby hbx bst hwz gz gfy hFz hRz hTz hrows htab hgd eF hWg hFl hdd eq
            subst htb
            go_wp2_with fail
            rw [← HWz.out]
            clear z2 f2
            obtain ⟨tb, htb⟩ : ∃ tb, wi.heap.size = tb := ⟨_, rfl⟩
            rw [htb] at S2 HVa ⊢
            refine wp_region_held_drew (S := SWg kb (.slice (some ⟨sb, 0, none⟩) k k) (.slice (some ⟨tb, 0, none⟩) 1 1) (.slice a' M.length c')) (by kernel_rfl) (S2.out.kept (grown_drew (grown_refl _ _))) (fun hHeld => ?_)
            obtain ⟨We, hWe⟩ : ∃ W, W = wz.drew := ⟨_, rfl⟩
            rw [← hWe] at hHeld ⊢
            have Ge : Hid (wz.grownBy We none) := by show World.grownBy _ _ _; rw [hWe]; exact grown_drew (grown_refl _ _)
            clear hWe
            refine wpAnyH_take (i := 0) (v := ?_) rfl (by kernel_rfl) (by kernel_rfl) (by kernel_rfl) (fun _ _ _ h => h) (Or.inl ⟨by rfl, ?_⟩) (by assumption) ?_
            rotate_left
            · intro W hSw
              obtain ⟨q0, q1, q2, q3⟩ := hSw
              go_simp
              with_reducible rfl
            try simp only [Act.put, List.getElem_toArray, List.getElem_cons_succ, List.getElem_cons_zero, List.setIfInBounds_toArray, List.set_cons_zero, List.set_cons_succ]
            refine wpAnyH_take (i := 1) (v := ?_) rfl (by kernel_rfl) (by kernel_rfl) (by kernel_rfl) (fun _ _ _ h => h) (Or.inl ⟨by rfl, ?_⟩) (by assumption) ?_
            rotate_left
            · intro W hSw
              obtain ⟨q0, q1, q2, q3⟩ := hSw
              go_simp
              with_reducible rfl
            try simp only [Act.put, List.getElem_toArray, List.getElem_cons_succ, List.getElem_cons_zero, List.setIfInBounds_toArray, List.set_cons_zero, List.set_cons_succ]
            refine wpAnyH_ready (rs := [2]) (by kernel_rfl) (by simp) ?_
            refine AllReadyH.cons (o := _) rfl (fun K' hK => ?_) ?_
            · have hmk := make_intsN We Nn (by omega)
              go_simp
              obtain ⟨V2, hV⟩ : ∃ W, W = We.alloc (.cells (Array.replicate Nn (Value.int .i64 0)) 3) := ⟨_, rfl⟩
              rw [← hV]
              have gV : We.grownBy V2 none := by rw [hV]; exact grown_alloc _ _
              have GV2 : Hid (wz.grownBy V2 none) := grown_trans Ge.out gV
              have HZ2 : Hid (Ints V2 (some ⟨We.heap.size, 0, none⟩) (List.replicate Nn 0)) := by
                show Ints _ _ _
                rw [hV]
                exact (zerosRow We Nn).ints
              clear hV gV hmk
              refine hK.out _ _ (S2.out.kept GV2.out) (fun hHeld => ?_)
              clear hK K'
              try simp only [Act.put, List.getElem_toArray, List.getElem_cons_succ, List.getElem_cons_zero, List.setIfInBounds_toArray, List.set_cons_zero, List.set_cons_succ]
              refine wpAnyH_ready (rs := [3]) (by kernel_rfl) (by simp) ?_
              refine AllReadyH.cons (o := _) rfl (fun K' hK => ?_) ?_
              · go_simp
                refine (HVa.out V2 We.heap.size GV2.out HZ2.out).mono ?_
                rintro E V3 ⟨rfl, hg3⟩
                have GF : Hid (w.grownBy V3 none) := grown_trans GZ.out (grown_trans GV2.out hg3)
                have GV3 : Hid (wz.grownBy V3 none) := grown_trans GV2.out hg3
                clear hg3
                go_wp2_with fail
                refine hK.out _ _ (S2.out.kept GV3.out) (fun hHeld => ?_)
                clear hK K'
                try simp only [Act.put, List.getElem_toArray, List.getElem_cons_succ, List.getElem_cons_zero, List.setIfInBounds_toArray, List.set_cons_zero, List.set_cons_succ]
                refine wpAnyH_take (i := 4) (v := ?_) rfl (by kernel_rfl) (by kernel_rfl) (by kernel_rfl) (fun _ _ _ h => h) (Or.inl ⟨by rfl, ?_⟩) (by assumption) ?_
                rotate_left
                · intro W hSw
                  obtain ⟨q0, q1, q2, q3⟩ := hSw
                  go_simp
                  with_reducible rfl
                try simp only [Act.put, List.getElem_toArray, List.getElem_cons_succ, List.getElem_cons_zero, List.setIfInBounds_toArray, List.set_cons_zero, List.set_cons_succ]
                refine wpAnyH_take (i := 5) (v := ?_) rfl (by kernel_rfl) (by kernel_rfl) (by kernel_rfl) (fun _ _ _ h => h) (Or.inl ⟨by rfl, ?_⟩) (by assumption) ?_
                rotate_left
                · intro W hSw
                  obtain ⟨q0, q1, q2, q3⟩ := hSw
                  go_simp
                  with_reducible rfl
                try simp only [Act.put, List.getElem_toArray, List.getElem_cons_succ, List.getElem_cons_zero, List.setIfInBounds_toArray, List.set_cons_zero, List.set_cons_succ]
                refine wpAnyH_take (i := 6) (v := ?_) rfl (by kernel_rfl) (by kernel_rfl) (by kernel_rfl) (fun _ _ _ h => h) (Or.inl ⟨by rfl, ?_⟩) (by assumption) ?_
                rotate_left
                · intro W hSw
                  obtain ⟨q0, q1, q2, q3⟩ := hSw
                  go_simp
                  with_reducible rfl
                try simp only [Act.put, List.getElem_toArray, List.getElem_cons_succ, List.getElem_cons_zero, List.setIfInBounds_toArray, List.set_cons_zero, List.set_cons_succ]
                refine wpAnyH_take (i := 7) (v := ?_) rfl (by kernel_rfl) (by kernel_rfl) (by kernel_rfl) (fun _ _ _ h => h) (Or.inl ⟨by rfl, ?_⟩) (by assumption) ?_
                rotate_left
                · intro W hSw
                  obtain ⟨q0, q1, q2, q3⟩ := hSw
                  go_simp
                  with_reducible rfl
                try simp only [Act.put, List.getElem_toArray, List.getElem_cons_succ, List.getElem_cons_zero, List.setIfInBounds_toArray, List.set_cons_zero, List.set_cons_succ]
                refine wpAnyH_take (i := 8) (v := ?_) rfl (by kernel_rfl) (by kernel_rfl) (by kernel_rfl) (fun _ _ _ h => h) (Or.inl ⟨by rfl, ?_⟩) (by assumption) ?_
                rotate_left
                · intro W hSw
                  obtain ⟨q0, q1, q2, q3⟩ := hSw
                  go_simp
                  with_reducible rfl
                try simp only [Act.put, List.getElem_toArray, List.getElem_cons_succ, List.getElem_cons_zero, List.setIfInBounds_toArray, List.set_cons_zero, List.set_cons_succ]
                refine wpAnyH_done (by kernel_rfl) ?_ _
                go_wp2_with fail
                first | exact ⟨rfl, GF.out⟩ | (go_ret; exact ⟨rfl, GF.out⟩)
              exact AllReadyH.nil
            exact AllReadyH.nil
  · have d1 : (z != 0) = true := by simpa using hz
    have GF : Hid (w.grownBy w5 none) := grown_trans G4.out G4w.out
    clear hz
    go_wp2_with fail
    go_ret
    exact ⟨rfl, GF.out⟩
end Go.Proofs.YtjinibofbpgfjaaDoor
