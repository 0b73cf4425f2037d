/- What a word weighs, in digits: the program's Value. -/
import Derived.Test.YtjinibofbpgfjaaDoorVaDig
import Derived.Test.YtjinibofbpgfjaaDoorWeChk2
import Derived.Test.YtjinibofbpgfjaaDoorMayP
import Derived.BigRegion
import Derived.Deep.RegionWith
import Derived.Deep.RegionHeld3
import Derived.Deep.RegionLaw
import Derived.Deep.DeepCutAuto
namespace Go.Proofs.YtjinibofbpgfjaaDoor
open Go.RowKit
open Go.Lib (itoa)
set_option linter.unusedVariables false
set_option linter.unusedSimpArgs false

theorem may_nat {n : Int} {zs : List Int} (h : mayF n zs = 0) : 1 ≤ n ∧ n ≤ 4 ∧ zs.length ≤ 60 ∧ ∃ us : List Nat, zs = us.map (fun l : Nat => (l : Int)) ∧ ∀ l, l ∈ us → l < n.toNat := by
  unfold mayF at h
  by_cases h1 : n < 1 ∨ 4 < n
  · rw [if_pos h1] at h; cases h
  · rw [if_neg h1] at h
    by_cases h2 : 60 < zs.length
    · rw [if_pos h2] at h; cases h
    · rw [if_neg h2] at h
      by_cases h3 : (zs.all fun x => decide (0 ≤ x) && decide (x < n)) = true
      · have h4 := List.all_eq_true.1 h3
        refine ⟨by omega, by omega, by omega, zs.map Int.toNat, ?_, ?_⟩
        · rw [List.map_map]
          conv => lhs; rw [← List.map_id zs]
          refine List.map_congr_left fun z hz => ?_
          have := h4 z hz
          simp at this
          simp
          omega
        · intro l hl
          obtain ⟨z, hz, rfl⟩ := List.mem_map.1 hl
          have := h4 z hz
          simp at this
          omega
      · rw [if_neg h3] at h; cases h
noncomputable def valZ (x : WgI) (zs : List Int) : Int := if checkW x ≠ 0 then checkW x else mayF x.L zs
/-- A text and an error are answered. -/
def StrE (z : Int) (l : List UInt8) (w : World) (e : Ending) (w' : World) : Prop := e = .returned (.tuple #[.string ⟨l.toArray⟩, .int .i64 z]) ∧ w.grownBy w' none
noncomputable def valS (x : WgI) (zs : List Int) : List UInt8 := if valZ x zs = 0 then itoa (valW x (zs.map Int.toNat)) else []
def SVa (k : Nat) (L : Int) (a1 : Option Addr) (n1 c1 : Nat) (a2 : Option Addr) (n2 c2 : Nat) (a3 : Option Addr) (n3 c3 : Nat) (W : World) : Prop :=
  W.cell? ⟨k, 0, none⟩ = some (.int .i64 L) ∧ W.cell? ⟨k, 1, none⟩ = some (.slice a1 n1 c1) ∧ W.cell? ⟨k, 2, none⟩ = some (.slice a2 n2 c2) ∧ W.cell? ⟨k, 3, none⟩ = some (.slice a3 n3 c3)
theorem SVa.kept {k : Nat} {L : Int} {a1 : Option Addr} {n1 c1 : Nat} {a2 : Option Addr} {n2 c2 : Nat} {a3 : Option Addr} {n3 c3 : Nat} {W W' : World} (h : SVa k L a1 n1 c1 a2 n2 c2 a3 n3 c3 W) (g : W.grownBy W' none) : SVa k L a1 n1 c1 a2 n2 c2 a3 n3 c3 W' := by
  obtain ⟨h0, h1, h2, h3⟩ := h
  exact ⟨g.cell h0 (by simp), g.cell h1 (by simp), g.cell h2 (by simp), g.cell h3 (by simp)⟩
theorem val72 {x : WgI} {ws : List Nat} (hx : GoodWg x) (hw : ∀ l, l ∈ ws → l < x.S.length) (h60 : ws.length ≤ 60) : ((valW x ws).natAbs : Int) < bbN 13 := by
  have h1 := bd72_row hx hw (bd72_first hx.within.1)
  have h2 := bd72_dot h1 hx.within.2.1 (by rw [hx.shape.1]; exact hx.size.2)
  have h3 := h72_room (k := 0 + ws.length + 1) (by omega)
  exact Int.lt_of_le_of_lt h2 h3

set_option maxHeartbeats 3200000 in
set_option maxRecDepth 100000 in
theorem valueP_any (x : WgI) (zs : List Int) (a1 a2 a3 az : Option Addr) (c1 c2 c3 cz : Nat) (w : World) (mx : WgAt w x a1 a2 a3) (hz : Ints w az zs) (hmz : zs.length ≤ maxLen) (hT : Pow10 w) :
    Calls Tryd.prog 7 #[wgV x.L a1 x.F.length c1 a2 x.S.length c2 a3 x.E.length c3, .slice az zs.length cz] w (StrE (valZ x zs) (valS x zs) w) := by
  obtain ⟨W1, hW1, g1, s1, bx⟩ := box4_new w x.L a1 x.F.length c1 a2 x.S.length c2 a3 x.E.length c3
  have HW1 : Hid (W1 = w.alloc (wgO x.L a1 x.F.length c1 a2 x.S.length c2 a3 x.E.length c3)) := hW1
  have G1 : Hid (w.grownBy W1 none) := g1
  have BX : Hid (∀ W, W1.grownBy W none → Box4 W w.heap.size x.L a1 x.F.length c1 a2 x.S.length c2 a3 x.E.length c3) := fun W hW => bx.grown hW
  have S1 : Hid (SVa w.heap.size x.L a1 x.F.length c1 a2 x.S.length c2 a3 x.E.length c3 W1) := ⟨bx.b0, bx.b1, bx.b2, bx.b3⟩
  have HC : Hid (∀ W, w.grownBy W none → Calls Tryd.prog 5 #[wgV x.L a1 x.F.length c1 a2 x.S.length c2 a3 x.E.length c3] W (ErrP (checkW x) W)) := fun W hW => checkWg_any x a1 a2 a3 c1 c2 c3 W (mx.grown hW)
  have HMy : Hid (∀ W, w.grownBy W none → Calls Tryd.prog 15 #[.int .i64 x.L, .slice az zs.length cz] W fun e w' => e = .returned (.int .i64 (mayF x.L zs)) ∧ w' = W) := fun W hW => may_any x.L az cz zs W (hz.grown hW) hmz
  obtain ⟨zx, hzx⟩ : ∃ z, checkW x = z := ⟨_, rfl⟩
  obtain ⟨my, hmy⟩ : ∃ z, mayF x.L zs = z := ⟨_, rfl⟩
  obtain ⟨dd, hdd⟩ : ∃ d, itoa (valW x (zs.map Int.toNat)) = d := ⟨_, rfl⟩
  have HX : Hid (checkW x = zx ∧ mayF x.L zs = my) := ⟨hzx, hmy⟩
  rw [hzx] at HC
  rw [hmy] at HMy
  obtain ⟨Po, hPo⟩ : ∃ P, P = StrE (valZ x zs) (valS x zs) w := ⟨_, rfl⟩
  have HBad : Hid (∀ z W, valZ x zs = z → z ≠ 0 → w.grownBy W none → Po (.returned (.tuple #[.string ⟨#[]⟩, .int .i64 z])) W) := fun z W h1 h2 h3 => by
    rw [hPo]
    have e : valS x zs = [] := by unfold valS; rw [if_neg (by rw [h1]; exact h2)]
    unfold StrE
    rw [e, h1]
    exact ⟨rfl, h3⟩
  have HGd0 : ∀ W, zx = 0 → my = 0 → w.grownBy W none → Po (.returned (.tuple #[.string ⟨dd.toArray⟩, .int .i64 0])) W := fun W h1 h2 h3 => by
    rw [hPo]
    have e0 : valZ x zs = 0 := by unfold valZ; rw [hzx, hmy, h1, if_neg (by omega)]; exact h2
    have e : valS x zs = dd := by unfold valS; rw [if_pos e0]; exact hdd
    unfold StrE
    rw [e, e0]
    exact ⟨rfl, h3⟩
  have HGd : Hid (zx = 0 → my = 0 → ∀ W, w.grownBy W none → Po (.returned (.tuple #[.string ⟨dd.toArray⟩, .int .i64 0])) W) := fun h1 h2 W h3 => HGd0 W h1 h2 h3
  rw [← hPo]
  have HUs : Hid (zx = 0 → my = 0 → ∃ us : List Nat, GoodWg x ∧ zs = us.map (fun l : Nat => (l : Int)) ∧ zs.map Int.toNat = us ∧ (∀ l, l ∈ us → l < x.S.length) ∧ us.length ≤ 60 ∧ us.length = zs.length) := fun h1 h2 => by
    have g := check_good.1 (hzx.trans h1)
    obtain ⟨_, _, h60, us, hu, hl⟩ := may_nat (hmy.trans h2)
    have e := g.shape.2.1
    refine ⟨us, g, hu, ?_, fun l hl2 => by have := hl l hl2; omega, by rw [hu, List.length_map] at h60; exact h60, by rw [hu, List.length_map]⟩
    rw [hu, List.map_map]
    conv => rhs; rw [← List.map_id us]
    exact List.map_congr_left fun l _ => by simp
  have HAt : Hid (∀ W, W1.grownBy W none → WgAt W x a1 a2 a3 ∧ Ints W az zs ∧ Pow10 W) := fun W hW => ⟨mx.grown (grown_trans g1 hW), hz.grown (grown_trans g1 hW), hT.grown (grown_trans g1 hW)⟩
  have HDd : Hid (itoa (valW x (zs.map Int.toNat)) = dd) := hdd
  have x0 := bx.b0
  have x1 := bx.b1
  have x2 := bx.b2
  have x3 := bx.b3
  rw [hW1] at x0 x1 x2 x3
  clear hW1 g1 s1 bx mx hz hmz hT hzx hmy hdd hPo HGd0
  go_enter Tryd.func7, Tryd.ntmps7
  go_wp2_with fail
  rw [← HW1.out]
  clear x0 x1 x2 x3
  refine (HC.out W1 G1.out).mono ?_
  rintro E w2 ⟨rfl, hg2⟩
  have G2 : Hid (W1.grownBy w2 none) := hg2
  clear hg2
  by_cases h0 : zx = 0
  · subst h0
    have q1 : ((0 : Int) != 0) = false := rfl
    have x0 := (BX.out w2 G2.out).b0
    go_wp2_with fail
    clear x0
    refine (HMy.out w2 (grown_trans G1.out G2.out)).mono ?_
    rintro E w4 ⟨rfl, rfl⟩
    by_cases hm : my = 0
    · subst hm
      obtain ⟨us, gx, hu, hmu, hul, h60, hlen⟩ := HUs.out (by simp) (by simp)
      obtain ⟨V, hV⟩ : ∃ V, valW x us = V := ⟨_, rfl⟩
      have HNu : Hid (∀ W, W1.grownBy W none → Calls Tryd.prog 17 #[.slice a1 x.F.length c1] W (NumsP x.F W)) := fun W hW => numbers_any x.F a1 x.F.length c1 W (HAt.out W hW).1.first rfl (by have := gx.size.2; omega) gx.within.1
      have HWt : Hid (∀ W a c, W1.grownBy W none → NumsAt W a x.F → Calls Tryd.prog 16 #[wgV x.L a1 x.F.length c1 a2 x.S.length c2 a3 x.E.length c3, .slice a x.F.length c, .slice az zs.length cz] W (NumP V W)) := fun W a c hW hn => by
        have h := weight_any x gx us hul h60 x.F rfl (bd72_first gx.within.1) a1 a2 a3 a az c1 c2 c3 c cz zs.length W (HAt.out W hW).1 hn (by rw [← hu]; exact (HAt.out W hW).2.1) hlen
        have e : dotW (rowF x x.F us) x.E = V := hV
        rw [e] at h
        exact h
      have HDi : Hid (∀ W, W1.grownBy W none → Calls Tryd.prog 18 #[nmV (ptF V)] W (StrP dd W)) := fun W hW => by
        have h := digits_any V (by rw [← hV]; exact val72 gx hul h60) W (HAt.out W hW).2.2
        rw [← hV, ← hmu, HDd.out] at h
        rw [← hV, ← hmu]
        exact h
      have HGood : Hid (∀ W, w.grownBy W none → Po (.returned (.tuple #[.string ⟨dd.toArray⟩, .int .i64 0])) W) := HGd.out (by simp) (by simp)
      have G4d : Hid (W1.grownBy w4 none) := G2.out
      clear hu hmu hul h60 hlen hV gx HUs HGd HDd HC HMy
      go_wp2_with fail
      refine wp_region_held_drew (S := SVa w.heap.size x.L a1 x.F.length c1 a2 x.S.length c2 a3 x.E.length c3) (by kernel_rfl) (S1.out.kept (grown_trans G4d.out (grown_drew (grown_refl _ _)))) (fun hHeld => ?_)
      obtain ⟨Wd, hWd⟩ : ∃ W, W = w4.drew := ⟨_, rfl⟩
      rw [← hWd] at hHeld ⊢
      have G4 : Hid (W1.grownBy Wd none) := by show World.grownBy _ _ _; rw [hWd]; exact grown_trans G4d.out (grown_drew (grown_refl _ _))
      clear hWd
      refine wpAnyH_take (i := 0) (v := ?_) rfl (by kernel_rfl) (by kernel_rfl) (by kernel_rfl) (fun _ _ _ h => h) (Or.inl ⟨by rfl, ?_⟩) (by assumption) ?_
      rotate_left
      · intro W hSw
        obtain ⟨q0, q1, q2, q3⟩ := hSw
        go_simp
        with_reducible rfl
      try simp only [Act.put, List.getElem_toArray, List.getElem_cons_succ, List.getElem_cons_zero, List.setIfInBounds_toArray, List.set_cons_zero, List.set_cons_succ]
      refine wpAnyH_take (i := 1) (v := ?_) rfl (by kernel_rfl) (by kernel_rfl) (by kernel_rfl) (fun _ _ _ h => h) (Or.inl ⟨by rfl, ?_⟩) (by assumption) ?_
      rotate_left
      · intro W hSw
        obtain ⟨q0, q1, q2, q3⟩ := hSw
        go_simp
        with_reducible rfl
      try simp only [Act.put, List.getElem_toArray, List.getElem_cons_succ, List.getElem_cons_zero, List.setIfInBounds_toArray, List.set_cons_zero, List.set_cons_succ]
      refine wpAnyH_take (i := 2) (v := ?_) rfl (by kernel_rfl) (by kernel_rfl) (by kernel_rfl) (fun _ _ _ h => h) (Or.inl ⟨by rfl, ?_⟩) (by assumption) ?_
      rotate_left
      · intro W hSw
        obtain ⟨q0, q1, q2, q3⟩ := hSw
        go_simp
        with_reducible rfl
      try simp only [Act.put, List.getElem_toArray, List.getElem_cons_succ, List.getElem_cons_zero, List.setIfInBounds_toArray, List.set_cons_zero, List.set_cons_succ]
      refine wpAnyH_take (i := 4) (v := ?_) rfl (by kernel_rfl) (by kernel_rfl) (by kernel_rfl) (fun _ _ _ h => h) (Or.inl ⟨by rfl, ?_⟩) (by assumption) ?_
      rotate_left
      · intro W hSw
        obtain ⟨q0, q1, q2, q3⟩ := hSw
        go_simp
        with_reducible rfl
      try simp only [Act.put, List.getElem_toArray, List.getElem_cons_succ, List.getElem_cons_zero, List.setIfInBounds_toArray, List.set_cons_zero, List.set_cons_succ]
      refine wpAnyH_ready (rs := [3]) (by kernel_rfl) (by simp) ?_
      refine AllReadyH.cons (o := _) rfl (fun K' hK => ?_) ?_
      · go_simp
        refine (HNu.out _ G4.out).mono ?_
        rintro E w5 ⟨a5, c5, rfl, hn5, hg5⟩
        have G5 : Hid (W1.grownBy w5 none) := grown_trans G4.out hg5
        have HN5 : Hid (NumsAt w5 a5 x.F) := hn5
        clear hn5 hg5
        go_wp2_with fail
        refine hK.out _ _ (S1.out.kept G5.out) (fun hHeld => ?_)
        clear hK K'
        try simp only [Act.put, List.getElem_toArray, List.getElem_cons_succ, List.getElem_cons_zero, List.setIfInBounds_toArray, List.set_cons_zero, List.set_cons_succ]
        refine wpAnyH_ready (rs := [5]) (by kernel_rfl) (by simp) ?_
        refine AllReadyH.cons (o := _) rfl (fun K' hK => ?_) ?_
        · go_simp
          refine (HWt.out w5 a5 c5 G5.out HN5.out).mono ?_
          rintro E w6 ⟨rfl, hg6⟩
          have G6 : Hid (W1.grownBy w6 none) := grown_trans G5.out hg6
          clear hg6
          go_wp2_with fail
          refine hK.out _ _ (S1.out.kept G6.out) (fun hHeld => ?_)
          clear hK K'
          try simp only [Act.put, List.getElem_toArray, List.getElem_cons_succ, List.getElem_cons_zero, List.setIfInBounds_toArray, List.set_cons_zero, List.set_cons_succ]
          refine wpAnyH_ready (rs := [6]) (by kernel_rfl) (by simp) ?_
          refine AllReadyH.cons (o := _) rfl (fun K' hK => ?_) ?_
          · go_simp
            refine (HDi.out w6 G6.out).mono ?_
            rintro E w7 ⟨rfl, hg7⟩
            have G7 : Hid (W1.grownBy w7 none) := grown_trans G6.out hg7
            have F : Hid (Po (.returned (.tuple #[.string ⟨dd.toArray⟩, .int .i64 0])) w7) := HGood.out w7 (grown_trans G1.out G7.out)
            clear hg7
            go_wp2_with fail
            refine hK.out _ _ (S1.out.kept G7.out) (fun hHeld => ?_)
            clear hK K'
            try simp only [Act.put, List.getElem_toArray, List.getElem_cons_succ, List.getElem_cons_zero, List.setIfInBounds_toArray, List.set_cons_zero, List.set_cons_succ]
            refine wpAnyH_take (i := 7) (v := ?_) rfl (by kernel_rfl) (by kernel_rfl) (by kernel_rfl) (fun _ _ _ h => h) (Or.inl ⟨by rfl, ?_⟩) (by assumption) ?_
            rotate_left
            · intro W hSw
              obtain ⟨q0, q1, q2, q3⟩ := hSw
              go_simp
              with_reducible rfl
            try simp only [Act.put, List.getElem_toArray, List.getElem_cons_succ, List.getElem_cons_zero, List.setIfInBounds_toArray, List.set_cons_zero, List.set_cons_succ]
            refine wpAnyH_take (i := 8) (v := ?_) rfl (by kernel_rfl) (by kernel_rfl) (by kernel_rfl) (fun _ _ _ h => h) (Or.inl ⟨by rfl, ?_⟩) (by assumption) ?_
            rotate_left
            · intro W hSw
              obtain ⟨q0, q1, q2, q3⟩ := hSw
              go_simp
              with_reducible rfl
            try simp only [Act.put, List.getElem_toArray, List.getElem_cons_succ, List.getElem_cons_zero, List.setIfInBounds_toArray, List.set_cons_zero, List.set_cons_succ]
            refine wpAnyH_done (by kernel_rfl) ?_ _
            go_wp2_with fail
            exact F.out
          exact AllReadyH.nil
        exact AllReadyH.nil
      exact AllReadyH.nil
    · have q2 : (my != 0) = true := by simpa using hm
      have HMn : Hid (my ≠ 0) := hm
      clear hm
      have F : Hid (Po (.returned (.tuple #[.string ⟨#[]⟩, .int .i64 my])) w4) := HBad.out my w4 (by unfold valZ; rw [HX.out.1, HX.out.2, if_neg (by omega)]) HMn.out (grown_trans G1.out G2.out)
      go_wp2_with fail
      first | exact F.out | (go_ret2; exact F.out) | exact bodyPost_ret (v := .tuple #[.string ⟨#[]⟩, .int .i64 my]) (by simp [results, Tryd.results7, go_sem]) rfl F.out
  · have q1 : (zx != 0) = true := by simpa using h0
    have HZn : Hid (zx ≠ 0) := h0
    clear h0
    have F : Hid (Po (.returned (.tuple #[.string ⟨#[]⟩, .int .i64 zx])) w2) := HBad.out zx w2 (by unfold valZ; rw [HX.out.1, if_pos HZn.out]) HZn.out (grown_trans G1.out G2.out)
    go_wp2_with fail
    first | exact F.out | (go_ret2; exact F.out) | exact bodyPost_ret (v := .tuple #[.string ⟨#[]⟩, .int .i64 zx]) (by simp [results, Tryd.results7, go_sem]) rfl F.out
end Go.Proofs.YtjinibofbpgfjaaDoor
