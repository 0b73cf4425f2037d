/- What is said to a word: the program's Run. -/
import Derived.Test.YtmbedmhdijbjgaaTnChk
import Derived.Test.YtmbedmhdijbjgaaTnAlong
import Derived.Test.YtmbedmhdijbjgaaTnCat
import Derived.Test.YtmbedmhdijbjgaaMayP
import Derived.Deep.RegionHeld3
namespace Go.Proofs.Ytmbedmhdijbjgaa
open Go.RowKit
set_option linter.unusedVariables false
set_option linter.unusedSimpArgs false

theorem may_ns {n : Int} {zs : List Int} (h : mayF n zs = 0) : 1 ≤ n ∧ n ≤ 4 ∧ zs.length ≤ 60 ∧ ∃ us : List Nat, zs = nsT us ∧ ∀ l ∈ us, l < n.toNat := by
  unfold mayF at h
  by_cases h1 : n < 1 ∨ 4 < n
  · rw [if_pos h1] at h; cases h
  · rw [if_neg h1] at h
    by_cases h2 : 60 < zs.length
    · rw [if_pos h2] at h; cases h
    · rw [if_neg h2] at h
      by_cases h3 : (zs.all fun x => decide (0 ≤ x) && decide (x < n)) = true
      · have h4 := List.all_eq_true.1 h3
        refine ⟨by omega, by omega, by omega, zs.map Int.toNat, ?_, ?_⟩
        · unfold nsT
          rw [List.map_map]
          conv => lhs; rw [← List.map_id zs]
          refine List.map_congr_left fun z hz => ?_
          have := h4 z hz
          simp at this
          simp
          omega
        · intro l hl
          obtain ⟨z, hz, rfl⟩ := List.mem_map.1 hl
          have := h4 z hz
          simp at this
          omega
      · rw [if_neg h3] at h; cases h

inductive RunP (x : TrI) (zs : List Int) (w : World) (e : Ending) (w' : World) : Prop
  | bad (z : Int) (h : ChkIs x z) (hz : z ≠ 0) (he : e = .returned (.tuple #[.slice none 0 0, .int .i64 z])) (g : w.grownBy w' none)
  | may (h : GoodT x) (hm : mayF x.I zs ≠ 0) (he : e = .returned (.tuple #[.slice none 0 0, .int .i64 (mayF x.I zs)])) (g : w.grownBy w' none)
  | good (h : GoodT x) (us : List Nat) (hz : zs = nsT us) (hm : mayF x.I zs = 0) (a : Option Addr) (c : Nat) (he : e = .returned (.tuple #[.slice a (saysT x us).length c, .int .i64 0])) (hi : Ints w' a (saysT x us)) (g : w.grownBy w' none)

set_option maxHeartbeats 3200000 in
set_option maxRecDepth 100000 in
theorem run_any (x : TrI) (a3 a4 a5 a6 : Option Addr) (c3 c4 c5 c6 : Nat) (zs : List Int) (az : Option Addr) (cz : Nat) (w : World) (h : TnAt w x a3 a4 a5 a6) (hz : Ints w az zs) (hmz : zs.length ≤ maxLen) :
    Calls Try.prog 6 #[tnV x.I x.O x.S a3 x.F.length c3 a4 x.N.length c4 a5 x.Y.length c5 a6 x.E.length c6, .slice az zs.length cz] w (RunP x zs w) := by
  obtain ⟨W1, hW1, g1, s1, bx⟩ := box7_new w x.I x.O x.S a3 x.F.length c3 a4 x.N.length c4 a5 x.Y.length c5 a6 x.E.length c6
  have HCk : Hid (Calls Try.prog 4 #[tnV x.I x.O x.S a3 x.F.length c3 a4 x.N.length c4 a5 x.Y.length c5 a6 x.E.length c6] W1 (ChkP x W1)) := check_any _ _ _ _ _ _ _ _ _ _ (h.grown g1)
  have HMy : Hid (∀ W, w.grownBy W none → Calls Try.prog 18 #[.int .i64 x.I, .slice az zs.length cz] W fun e w' => e = .returned (.int .i64 (mayF x.I zs)) ∧ w' = W) := fun W hW => may_any _ _ _ _ _ (hz.grown hW) hmz
  have HAl : Hid (∀ W, w.grownBy W none → GoodT x → mayF x.I zs = 0 → ∀ us, zs = nsT us → (∀ l ∈ us, l < x.I.toNat) → us.length ≤ 60 → Calls Try.prog 19 #[tnV x.I x.O x.S a3 x.F.length c3 a4 x.N.length c4 a5 x.Y.length c5 a6 x.E.length c6, .int .i64 x.S, .slice az us.length cz] W (AlongP x x.S.toNat us W)) := fun W hW hG hm us hu hl h60 => by
    have hI := hG.many.1.2
    have hN := hG.size.2
    have hS := hG.within.2
    unfold StT at hS
    have := along_any x x.I.toNat a3 a4 a5 a6 c3 c4 c5 c6 W (h.grown hW) hG.read (by omega) (by omega) x.S.toNat (by omega) us hl h60 az cz (by rw [← hu]; exact hz.grown hW)
    rwa [show ((x.S.toNat : Nat) : Int) = x.S by omega] at this
  have HT : Hid (TnAt w x a3 a4 a5 a6) := h
  have HW1 : Hid (W1 = _) := hW1
  have G1 : Hid (w.grownBy W1 none) := g1
  have BX : Hid (∀ W, W1.grownBy W none → Box7 W w.heap.size x.I x.O x.S a3 x.F.length c3 a4 x.N.length c4 a5 x.Y.length c5 a6 x.E.length c6) := fun W hW => bx.grown hW
  have x0 := bx.b0
  have x1 := bx.b1
  have x2 := bx.b2
  have x3 := bx.b3
  have x4 := bx.b4
  have x5 := bx.b5
  have x6 := bx.b6
  rw [hW1] at x0 x1 x2 x3 x4 x5 x6
  obtain ⟨Po, hPo⟩ : ∃ P, P = RunP x zs w := ⟨_, rfl⟩
  have HP1 : Hid (∀ z W, ChkIs x z → z ≠ 0 → W1.grownBy W none → Po (.returned (.tuple #[.slice none 0 0, .int .i64 z])) W) := fun z W h1 h2 h3 => by rw [hPo]; exact .bad z h1 h2 rfl (grown_trans G1.out h3)
  have HP2 : Hid (∀ W, GoodT x → mayF x.I zs ≠ 0 → W1.grownBy W none → Po (.returned (.tuple #[.slice none 0 0, .int .i64 (mayF x.I zs)])) W) := fun W h1 h2 h3 => by rw [hPo]; exact .may h1 h2 rfl (grown_trans G1.out h3)
  have HP3 : Hid (∀ us a c W, GoodT x → zs = nsT us → mayF x.I zs = 0 → Ints W a (saysT x us) → W1.grownBy W none → Po (.returned (.tuple #[.slice a (saysT x us).length c, .int .i64 0])) W) := fun us a c W h1 h2 h3 h4 h5 => by rw [hPo]; exact .good h1 us h2 h3 a c rfl h4 (grown_trans G1.out h5)
  rw [← hPo]
  clear hW1 g1 s1 bx h hPo hz hmz
  go_enter Try.func6, Try.ntmps6
  go_wp2_with fail
  rw [← HW1.out]
  refine HCk.out.mono ?_
  rintro E w1 ⟨z, rfl, hz, g1⟩
  have HZ : Hid (ChkIs x z) := hz
  have HG : Hid (W1.grownBy w1 none) := g1
  clear hz g1 x0 x1 x2 x3 x4 x5 x6
  by_cases hz0 : z = 0
  · have HGd : Hid (GoodT x) := (HZ.out.all HZ.out).2.1 hz0
    subst hz0
    have y0 := (BX.out w1 HG.out).b0
    clear HZ HP1
    go_wp2_with fail
    refine (HMy.out w1 (grown_trans G1.out HG.out)).mono ?_
    rintro E w2 ⟨rfl, rfl⟩
    clear y0
    by_cases hm0 : mayF x.I zs = 0
    · obtain ⟨i1, i4, h60, us, hus, hl⟩ := may_ns hm0
      have hlu : zs.length = us.length := by rw [hus, nsT_len]
      rw [hlu] at h60
      have HAl2 : Hid (Calls Try.prog 19 #[tnV x.I x.O x.S a3 x.F.length c3 a4 x.N.length c4 a5 x.Y.length c5 a6 x.E.length c6, .int .i64 x.S, .slice az zs.length cz] w2 (AlongP x x.S.toNat us w2)) := by
        rw [hlu]; exact HAl.out w2 (grown_trans G1.out HG.out) HGd.out hm0 us hus hl h60
      have HLn : Hid ((ruT x x.S.toNat us).length ≤ 480 ∧ goT x x.S.toNat us < x.N.length) := by
        have hS := HGd.out.within.2
        unfold StT at hS
        have h1 := HGd.out.read.len us hl (q := x.S.toNat) (by omega)
        exact ⟨by omega, HGd.out.read.go us hl (by omega)⟩
      have HF3 : Hid (∀ a c W, Ints W a (saysT x us) → W1.grownBy W none → Po (.returned (.tuple #[.slice a (saysT x us).length c, .int .i64 0])) W) := fun a c W h4 h5 => HP3.out us a c W HGd.out hus hm0 h4 h5
      clear hus hl HP2 HP3 HMy HAl h60 hlu i1 i4
      have y0 := (BX.out w2 HG.out).b0
      have y1 := (BX.out w2 HG.out).b1
      have y2 := (BX.out w2 HG.out).b2
      have y3 := (BX.out w2 HG.out).b3
      have y4 := (BX.out w2 HG.out).b4
      have y5 := (BX.out w2 HG.out).b5
      have y6 := (BX.out w2 HG.out).b6
      go_wp2_with fail
      refine HAl2.out.mono ?_
      rintro E w3 ⟨ar, cr, rfl, hri, gr, hrn⟩
      have GW : Hid (W1.grownBy w3 none) := grown_trans HG.out gr
      have GR : Hid (Ints w3 ar (ruT x x.S.toNat us)) := hri
      clear y0 y1 y2 y3 y4 y5 y6 hri gr hrn HAl2
      obtain ⟨hl1, hl2⟩ := HLn.out
      obtain ⟨b6, o6, k6, r6, rfl, h8, hs6⟩ := read_last (HT.out.grown (grown_trans G1.out GW.out)) HGd.out.read hl2
      have hf8 := HGd.out.read.f8
      have he6 := HGd.out.read.he
      have i6 : ((goT x x.S.toNat us : Nat) : Int) < (x.E.length : Int) := by rw [he6]; omega
      have CT : Hid (∀ (W : World) (g2 : Nat), w3.grownBy W none → W.cell? ⟨g2, 0, none⟩ = some (.slice a3 x.F.length c3) → W.cell? ⟨g2, 1, none⟩ = some (.slice ar (ruT x x.S.toNat us).length cr) → W.cell? ⟨g2, 2, none⟩ = some (.slice r6 (x.E.getD (goT x x.S.toNat us) []).length k6) → Calls Try.prog 20 #[.slice (some ⟨g2, 0, none⟩) 3 3] W (Cat3P x.F (ruT x x.S.toNat us) (x.E.getD (goT x x.S.toNat us) []) W)) := fun W g2 hW q1 q2 q3 =>
        cat3_any _ _ _ a3 ar r6 c3 cr k6 g2 W (HT.out.first.grown (grown_trans (grown_trans G1.out GW.out) hW)) (GR.out.grown hW) (hs6 W hW).2 (by omega) q1 q2 q3
      have KK : Hid (∀ W, w3.grownBy W none → W.cell? ⟨w.heap.size, 3, none⟩ = some (.slice a3 x.F.length c3) ∧ W.cell? ⟨w.heap.size, 6, none⟩ = some (.slice (some ⟨b6, o6, none⟩) x.E.length c6) ∧ W.cell? ⟨b6, o6 + goT x x.S.toNat us, none⟩ = some (.slice r6 (x.E.getD (goT x x.S.toNat us) []).length k6)) := fun W hW =>
        ⟨(BX.out W (grown_trans GW.out hW)).b3, (BX.out W (grown_trans GW.out hW)).b6, (hs6 W hW).1⟩
      have GC : Hid (∀ o, w3.grownBy ((w3.alloc o).drew) none) := fun o => grown_drew (grown_alloc _ _)
      have CX : Hid (∀ v0 v1 v2 t, ((w3.alloc (.cells #[v0, v1, v2] t)).drew).cell? ⟨w3.heap.size, 0, none⟩ = some v0 ∧ ((w3.alloc (.cells #[v0, v1, v2] t)).drew).cell? ⟨w3.heap.size, 1, none⟩ = some v1 ∧ ((w3.alloc (.cells #[v0, v1, v2] t)).drew).cell? ⟨w3.heap.size, 2, none⟩ = some v2) := fun v0 v1 v2 t => by
        have hb := heap_alloc_new w3 (.cells #[v0, v1, v2] t)
        exact ⟨(grown_drew (grown_refl _ _)).cell (row := none) (by rw [cell_of_row _ _ 0 _ _ (0, 0) hb]; rfl) (by simp), (grown_drew (grown_refl _ _)).cell (row := none) (by rw [cell_of_row _ _ 1 _ _ (0, 0) hb]; rfl) (by simp), (grown_drew (grown_refl _ _)).cell (row := none) (by rw [cell_of_row _ _ 2 _ _ (0, 0) hb]; rfl) (by simp)⟩
      have HF4 : Hid (∀ a c W, Ints W a (x.F ++ ruT x x.S.toNat us ++ x.E.getD (goT x x.S.toNat us) []) → W1.grownBy W none → Po (.returned (.tuple #[.slice a (x.F ++ ruT x x.S.toNat us ++ x.E.getD (goT x x.S.toNat us) []).length c, .int .i64 0])) W) := HF3.out
      clear hs6 h8 hl1 hf8 he6 HF3 HLn GR HT hl2
      generalize x.E.getD (goT x x.S.toNat us) [] = le at *
      generalize goT x x.S.toNat us = p at *
      generalize ruT x x.S.toNat us = zr at *
      go_wp2_with fail
      go_region_held3 (fun W => W.cell? ⟨w.heap.size, 3, none⟩ = some (.slice a3 x.F.length c3) ∧ W.cell? ⟨w.heap.size, 6, none⟩ = some (.slice (some ⟨b6, o6, none⟩) x.E.length c6) ∧ W.cell? ⟨b6, o6 + p, none⟩ = some (.slice r6 le.length k6))
        (first | (with_reducible exact KK.out _ (grown_drew (grown_refl _ _))) | (with_reducible exact KK.out _ (grown_drew (grown_alloc _ _))) | assumption)
        (first | (go_at_call 20; refine (CT.out _ _ (GC.out _) (CX.out _ _ _ _).1 (CX.out _ _ _ _).2.1 (CX.out _ _ _ _).2.2).mono ?_; rintro E w6 ⟨a6, k6', rfl, hi6, hg6, hn6⟩; have kk6 := KK.out w6 (grown_trans (grown_drew (grown_alloc _ _)) hg6); have Fin : Hid (Po (.returned (.tuple #[.slice a6 (x.F ++ zr ++ le).length k6', .int .i64 0])) w6) := HF4.out a6 k6' w6 hi6 (grown_trans GW.out (grown_trans (grown_drew (grown_alloc _ _)) hg6)); clear hi6 hg6 hn6; generalize (x.F ++ zr ++ le).length = n6 at *))
      all_goals
        go_wp2_with fail
        first | exact Fin.out | (go_ret; exact Fin.out) | exact bodyPost_ret (v := .tuple #[.slice a6 n6 k6', .int .i64 0]) (by simp [results, Try.results6, go_sem]) rfl Fin.out
    · have F : Hid (Po (.returned (.tuple #[.slice none 0 0, .int .i64 (mayF x.I zs)])) w2) := HP2.out w2 HGd.out hm0 HG.out
      have d1 : (mayF x.I zs != 0) = true := by simpa using hm0
      clear hm0 HP2 HP3
      go_wp2_with fail
      first | exact F.out | (go_ret; exact F.out) | exact bodyPost_ret (v := .tuple #[.slice none 0 0, .int .i64 (mayF x.I zs)]) (by simp [results, Try.results6, go_sem]) rfl F.out
  · have F : Hid (Po (.returned (.tuple #[.slice none 0 0, .int .i64 z])) w1) := HP1.out z w1 HZ.out hz0 HG.out
    have d1 : (z != 0) = true := by simpa using hz0
    clear hz0 HP1 HP2 HP3 HZ
    go_wp2_with fail
    first | exact F.out | (go_ret; exact F.out) | exact bodyPost_ret (v := .tuple #[.slice none 0 0, .int .i64 z]) (by simp [results, Try.results6, go_sem]) rfl F.out

end Go.Proofs.Ytmbedmhdijbjgaa
