/- The law's own walk: GameSolves. -/
import Derived.Test.YtlnlgjbpkjfbjaaGLists
namespace Go.Proofs.Ytlnlgjbpkjfbjaa
open Go.RowKit
set_option linter.unusedVariables false

set_option maxHeartbeats 6400000 in
set_option maxRecDepth 100000 in
theorem game_B (zo zm : List Int) (R : List (List Int)) (ao am ax : Option Addr) (co cm cx : Nat) (w : World) (h : GArg w zo zm R ao am ax) (hno : zo.length ≤ 17592186044416) (hnm : zm.length ≤ 17592186044416) (hnr : R.length * 24 ≤ 140737488355328) (hrl : ∀ i, i < R.length → (R.getD i []).length ≤ 17592186044416) (hc : checkG zo zm R = 0) :
    Calls Try.prog 4 #[gameV ao zo.length co am zm.length cm ax R.length cx] w (Says (.bool true) w) := by
  have CL0 : Hid (∀ W, w.grownBy W none → Calls Try.prog 8 #[.slice ao zo.length co] W fun e w' => e = .returned (.slice (some ⟨W.heap.size, 0, none⟩) zo.length (zo.length + 3)) ∧ Owns W.heap.size w' [(3, .slice (some ⟨W.heap.size, 0, none⟩) zo.length (zo.length + 3), vals zo)] ∧ W.grownBy w' none) := fun W hW => list_any ao co zo W (h.own.grown hW) hno
  have CL1 : Hid (∀ W, w.grownBy W none → Calls Try.prog 8 #[.slice am zm.length cm] W fun e w' => e = .returned (.slice (some ⟨W.heap.size, 0, none⟩) zm.length (zm.length + 3)) ∧ Owns W.heap.size w' [(3, .slice (some ⟨W.heap.size, 0, none⟩) zm.length (zm.length + 3), vals zm)] ∧ W.grownBy w' none) := fun W hW => list_any am cm zm W (h.mark.grown hW) hnm
  have hrm : ∀ i, i < R.length → (R.getD i []).length ≤ maxLen := fun i hi => by have := hrl i hi; unfold maxLen; omega
  have CL2 : Hid (∀ W, w.grownBy W none → Calls Try.prog 9 #[.slice ax R.length cx] W fun e w' => ∃ (a : Option Addr) (c : Nat) (rs : List (Value × List Int)), e = .returned (.slice a R.length c) ∧ rs.map (·.2) = R ∧ Owns W.heap.size w' ((25, .slice a R.length c, rs.map (·.1)) :: rowItems rs) ∧ W.grownBy w' none) := fun W hW => (lists_any ax cx R W (h.rows.grown hW) hnr hrl).mono fun e w' hp => by
    obtain ⟨v, rs, rfl, h1, h2, h3⟩ := hp
    obtain ⟨_, a, c, hv⟩ := h2.head
    simp only at hv
    subst hv
    have e1 : (rs.map (·.1)).length = R.length := by rw [← h1]; simp
    simp only [e1] at h2
    exact ⟨a, c, rs, by rw [e1], h1, h2, h3⟩
  have CKR : Hid (∀ W, w.grownBy W none → Calls Try.prog 12 #[gameV ao zo.length co am zm.length cm ax R.length cx] W (Says (.int .i64 0) W)) := fun W hW => hc ▸ checkR10_any zo zm R ao am ax co cm cx W (h.grown hW)
  have CKP : Hid (∀ W a0 c0 a1 c1 a2 c2, GArg W zo zm R a0 a1 a2 → Calls Try.prog 11 #[gameV a0 zo.length c0 a1 zm.length c1 a2 R.length c2] W (Says (.int .i64 0) W)) := fun W a0 c0 a1 c1 a2 c2 hg => hc ▸ checkP_any zo zm R a0 a1 a2 c0 c1 c2 W hg
  have CSV : Hid (∀ W a0 c0 a1 c1 a2 c2, GArg W zo zm R a0 a1 a2 → Calls Try.prog 10 #[gameV a0 zo.length c0 a1 zm.length c1 a2 R.length c2] W (SolveEPost (gmOf zo zm R) W)) := fun W a0 c0 a1 c1 a2 c2 hg => solveE_good zo zm R a0 a1 a2 c0 c1 c2 W hg hc
  obtain ⟨B, hB, eb0, eb1, eb2⟩ := gmAt_of h hc co cm cx
  obtain ⟨hGG, hM0, hR0⟩ := good_of_checkG hc
  have CWN : Hid (∀ W bw bm Wf Mf i, w.grownBy W none → IRow W bw zo.length zo.length Wf → IRow W bm zo.length zo.length (dropF (gmOf zo zm R) Wf Mf) → Solved (gmOf zo zm R) (fun p => decide (p < zo.length)) Wf Mf → Calls Try.prog 14 #[gameV ao zo.length co am zm.length cm ax R.length cx, .agg #[.slice (some ⟨bw, 0, none⟩) zo.length zo.length, .slice (some ⟨bm, 0, none⟩) zo.length zo.length], .int .i64 i] W (Says (.bool true) W)) := fun W bw bm Wf Mf i hW h1 h2 h3 => by
    have := wins_any (gmOf zo zm R) B bw bm Wf Mf i W hGG (hB.grown hW) h1 h2 h3
    show Calls _ _ #[.agg #[_, _, _], _, _] _ _
    rw [eb0, eb1, eb2]
    exact this
  have hn60 : zo.length ≤ 60 := hGG.n60
  clear hB eb0 eb1 eb2 hGG
  have CW0 : Hid (∀ W a0 c0, w.grownBy W none → Ints W a0 zo → Calls Try.prog 7 #[.slice a0 zo.length c0, .slice ao zo.length co] W (Says (.bool true) W)) := fun W a0 c0 hW hi => (wordsR_any a0 ao c0 co zo zo W hi (h.own.grown hW) h.lo h.lo).mono fun e w' hh => by
    obtain ⟨bb, rfl, h9, h10⟩ := hh
    exact ⟨by rw [h9.2 rfl], h10⟩
  have CW1 : Hid (∀ W a0 c0, w.grownBy W none → Ints W a0 zm → Calls Try.prog 7 #[.slice a0 zm.length c0, .slice am zm.length cm] W (Says (.bool true) W)) := fun W a0 c0 hW hi => (wordsR_any a0 am c0 cm zm zm W hi (h.mark.grown hW) h.lm h.lm).mono fun e w' hh => by
    obtain ⟨bb, rfl, h9, h10⟩ := hh
    exact ⟨by rw [h9.2 rfl], h10⟩
  have CSL : Hid (∀ W a0 c0, w.grownBy W none → RowsAt W a0 R → Calls Try.prog 13 #[.slice a0 R.length c0, .slice ax R.length cx] W (Says (.bool true) W)) := fun W a0 c0 hW hi => sameLists_any a0 ax c0 cx R.length R W rfl hi (h.rows.grown hW) h.lr
  have HMx : Hid (zo.length ≤ maxLen ∧ zm.length ≤ maxLen ∧ R.length ≤ maxLen) := ⟨h.lo, h.lm, h.lr⟩
  have HRm : Hid (∀ i, i < R.length → (R.getD i []).length ≤ maxLen) := hrm
  obtain ⟨no, en0⟩ : ∃ no, zo.length = no := ⟨_, rfl⟩
  obtain ⟨nm, en1⟩ : ∃ nm, zm.length = nm := ⟨_, rfl⟩
  obtain ⟨nr, en2⟩ : ∃ nr, R.length = nr := ⟨_, rfl⟩
  have HNs : Hid (zo.length = no ∧ zm.length = nm ∧ R.length = nr) := ⟨en0, en1, en2⟩
  rw [en1, en0] at hM0
  rw [en2, en0] at hR0
  have HNN : Hid (nm = no ∧ nr = no) := ⟨hM0, hR0⟩
  clear hM0 hR0
  simp only [en0, en1, en2] at CL0 CL1 CL2 CKR CKP CSV CW0 CW1 CSL HMx HRm CWN hn60 hno hnm hnr ⊢
  clear h hc hrl hrm en0 en1 en2
  obtain ⟨W1, hW1, g1, s1, bx1⟩ := box3_new w (.slice ao no co) (.slice am nm cm) (.slice ax nr cx) 33
  obtain ⟨W2, hW2, g2, s2, _⟩ := box3_new W1 (.slice ao no co) (.slice am nm cm) (.slice ax nr cx) 33
  have hb2 := heap_alloc_new W1 (.cells #[.slice ao no co, .slice am nm cm, .slice ax nr cx] 33)
  rw [← hW2, s1] at hb2
  obtain ⟨k, hk⟩ : ∃ k, w.heap.size = k := ⟨_, rfl⟩
  have HK : Hid (w.heap.size = k) := hk
  rw [hk] at hb2 bx1 s1
  have X2 : Hid (RowB W2 (k + 1) 33 3 3 (fun j => if j = 0 then .slice ao no co else if j = 1 then .slice am nm cm else .slice ax nr cx)) := ⟨_, hb2, rfl, Nat.le_refl _, fun i hi => by
    match i, hi with
    | 0, _ => rfl
    | 1, _ => rfl
    | 2, _ => rfl⟩
  have BX : Hid (∀ W', W1.grownBy W' none → W'.cell? ⟨k, 0, none⟩ = some (.slice ao no co) ∧ W'.cell? ⟨k, 1, none⟩ = some (.slice am nm cm) ∧ W'.cell? ⟨k, 2, none⟩ = some (.slice ax nr cx)) := bx1
  have G1 : Hid (w.grownBy W1 none) := g1
  have G2 : Hid (W1.grownBy W2 none) := g2
  have HS1 : Hid (W1.heap.size = k + 1) := s1
  have HS2 : Hid (W2.heap.size = k + 1 + 1) := by show _ = _; rw [s2, s1]
  have HW2 : Hid (W2 = (w.alloc (.cells #[.slice ao no co, .slice am nm cm, .slice ax nr cx] 33)).alloc (.cells #[.slice ao no co, .slice am nm cm, .slice ax nr cx] 33)) := by show _ = _; rw [hW2, hW1]
  obtain ⟨x0, x1, x2⟩ := BX.out W1 (grown_refl _ _)
  obtain ⟨y0, y1, y2⟩ := BX.out W2 g2
  rw [hW1, ← hk] at x0 x1 x2
  rw [HW2.out, ← hk] at y0 y1 y2
  clear hW1 hW2 g1 g2 s1 s2 bx1 hb2
  go_enter Try.func4, Try.ntmps4
  go_wp2_with fail
  rw [← HW2.out]
  clear x0 x1 x2 y0 y1 y2
  refine (CL0.out _ (grown_trans G1.out G2.out)).mono ?_
  rintro E w3 ⟨rfl, ho3, hg3⟩
  rw [HS2.out] at ho3 ⊢
  try rw [hk]
  clear hk
  -- the first copy is written
  have X3w := X2.out.kept hg3
  obtain ⟨W3, hW3⟩ : ∃ W3, W3 = w3.setCell ⟨k + 1, 0, none⟩ (.slice (some ⟨k + 1 + 1, 0, none⟩) no (no + 3)) := ⟨_, rfl⟩
  have HW3 : Hid (W3 = w3.setCell ⟨k + 1, 0, none⟩ (.slice (some ⟨k + 1 + 1, 0, none⟩) no (no + 3))) := hW3
  have X3 : Hid (RowB W3 (k + 1) 33 3 3 (fun j => if j = 0 then .slice (some ⟨k + 1 + 1, 0, none⟩) no (no + 3) else if j = 1 then .slice am nm cm else .slice ax nr cx)) := by
    have := X3w.set (i := 0) (by omega) (.slice (some ⟨k + 1 + 1, 0, none⟩) no (no + 3))
    rw [← hW3] at this
    exact this.congr (fun j hj => by by_cases e : j = 0 <;> simp [e])
  have O3 : Hid (Owns (k + 1 + 1) W3 [(3, .slice (some ⟨k + 1 + 1, 0, none⟩) no (no + 3), vals zo)]) := by show Owns _ _ _; rw [hW3]; exact ho3.below (grown_set _ _ _) (Nat.lt_succ_self _)
  have G3 : Hid (W1.grownBy W3 none) := by show World.grownBy _ _ _; rw [hW3]; exact grown_new (grown_trans G2.out hg3) (grown_set _ _ _) (by rw [HS1.out]; exact Nat.le_refl _)
  have z0 := X3w.cell (i := 0) (by omega)
  have zf := X3w.frozen 0
  obtain ⟨x0, x1, x2⟩ := BX.out W3 G3.out
  obtain ⟨y0, y1, y2⟩ := BX.out w3 (grown_trans G2.out hg3)
  have HS3 : Hid (k + 1 + 1 ≤ W3.heap.size) := by show _ ≤ _; rw [hW3]; have := hg3.size; rw [HS2.out] at this; simpa [World.setCell] using this
  rw [hW3] at x0 x1 x2
  clear ho3 hg3 X3w hW3 X2 G2
  go_wp2_with fail
  rw [← HW3.out]
  clear z0 zf x0 x1 x2 y0 y1 y2
  refine (CL1.out _ (grown_trans G1.out G3.out)).mono ?_
  rintro E w4 ⟨rfl, ho4, hg4⟩
  obtain ⟨g4, eg4⟩ : ∃ g4, W3.heap.size = g4 := ⟨_, rfl⟩
  rw [eg4] at ho4 HS3 ⊢
  have X4w := X3.out.kept hg4
  have hb4 := HS3.out
  obtain ⟨W4, hW4⟩ : ∃ W4, W4 = w4.setCell ⟨k + 1, 1, none⟩ (.slice (some ⟨g4, 0, none⟩) nm (nm + 3)) := ⟨_, rfl⟩
  have HW4 : Hid (W4 = w4.setCell ⟨k + 1, 1, none⟩ (.slice (some ⟨g4, 0, none⟩) nm (nm + 3))) := hW4
  have X4 : Hid (RowB W4 (k + 1) 33 3 3 (fun j => if j = 0 then .slice (some ⟨k + 1 + 1, 0, none⟩) no (no + 3) else if j = 1 then .slice (some ⟨g4, 0, none⟩) nm (nm + 3) else .slice ax nr cx)) := by
    have := X4w.set (i := 1) (by omega) (.slice (some ⟨g4, 0, none⟩) nm (nm + 3))
    rw [← hW4] at this
    exact this.congr (fun j hj => by by_cases e : j = 1 <;> simp [e])
  have O4 : Hid (Owns (k + 1 + 1) W4 [(3, .slice (some ⟨k + 1 + 1, 0, none⟩) no (no + 3), vals zo)]) := by show Owns _ _ _; rw [hW4]; exact (O3.out.kept hg4).below (grown_set _ _ _) (Nat.lt_succ_self _)
  have P4 : Hid (Owns (k + 1 + 1) W4 [(3, .slice (some ⟨g4, 0, none⟩) nm (nm + 3), vals zm)]) := by show Owns _ _ _; rw [hW4]; exact (ho4.base hb4).below (grown_set _ _ _) (Nat.lt_succ_self _)
  have G4 : Hid (W1.grownBy W4 none) := by show World.grownBy _ _ _; rw [hW4]; exact grown_new (grown_trans G3.out hg4) (grown_set _ _ _) (by rw [HS1.out]; exact Nat.le_refl _)
  have z0 := X4w.cell (i := 1) (by omega)
  have zf := X4w.frozen 1
  obtain ⟨x0, x1, x2⟩ := BX.out W4 G4.out
  obtain ⟨y0, y1, y2⟩ := BX.out w4 (grown_trans G3.out hg4)
  have HS4 : Hid (k + 1 + 1 ≤ W4.heap.size) := by show _ ≤ _; rw [hW4]; have := hg4.size; rw [eg4] at this; simp [World.setCell]; omega
  rw [hW4] at x0 x1 x2
  clear ho4 hg4 X4w hW4 X3 O3 G3 hb4 HS3 eg4
  go_wp2_with fail
  rw [← HW4.out]
  clear z0 zf x0 x1 x2 y0 y1 y2
  refine (CL2.out _ (grown_trans G1.out G4.out)).mono ?_
  rintro E w5 ⟨a5, c5, rs, rfl, hrs, ho5, hg5⟩
  have X5w := X4.out.kept hg5
  obtain ⟨W5, hW5⟩ : ∃ W5, W5 = w5.setCell ⟨k + 1, 2, none⟩ (.slice a5 nr c5) := ⟨_, rfl⟩
  have HW5 : Hid (W5 = w5.setCell ⟨k + 1, 2, none⟩ (.slice a5 nr c5)) := hW5
  have X5 : Hid (RowB W5 (k + 1) 33 3 3 (fun j => if j = 0 then .slice (some ⟨k + 1 + 1, 0, none⟩) no (no + 3) else if j = 1 then .slice (some ⟨g4, 0, none⟩) nm (nm + 3) else .slice a5 nr c5)) := by
    have := X5w.set (i := 2) (by omega) (.slice a5 nr c5)
    rw [← hW5] at this
    exact this.congr (fun j hj => by
      match j, hj with
      | 0, _ => rfl
      | 1, _ => rfl
      | 2, _ => rfl)
  have GA : Hid (∀ W, W5.grownBy W none → GArg W zo zm R (some ⟨k + 1 + 1, 0, none⟩) (some ⟨g4, 0, none⟩) a5) := fun W hW => by
    have q0 : Owns (k + 1 + 1) W5 [(3, .slice (some ⟨k + 1 + 1, 0, none⟩) no (no + 3), vals zo)] := by rw [hW5]; exact (O4.out.kept hg5).below (grown_set _ _ _) (Nat.lt_succ_self _)
    have q1 : Owns (k + 1 + 1) W5 [(3, .slice (some ⟨g4, 0, none⟩) nm (nm + 3), vals zm)] := by rw [hW5]; exact (P4.out.kept hg5).below (grown_set _ _ _) (Nat.lt_succ_self _)
    have q2 : Owns (k + 1 + 1) W5 ((25, .slice a5 nr c5, rs.map (·.1)) :: rowItems rs) := by rw [hW5]; exact (ho5.base HS4.out).below (grown_set _ _ _) (Nat.lt_succ_self _)
    exact ⟨(q0.kept hW).ints.2, (q1.kept hW).ints.2, (rows_of_copy (q2.kept hW) hrs (by rw [HNs.out.2.2]; exact HRm.out)).2, by rw [HNs.out.1]; exact HMx.out.1, by rw [HNs.out.2.1]; exact HMx.out.2.1, by rw [HNs.out.2.2]; exact HMx.out.2.2⟩
  have G5 : Hid (W1.grownBy W5 none) := by show World.grownBy _ _ _; rw [hW5]; exact grown_new (grown_trans G4.out hg5) (grown_set _ _ _) (by rw [HS1.out]; exact Nat.le_refl _)
  have z0 := X5w.cell (i := 2) (by omega)
  have zf := X5w.frozen 2
  have XC : Hid (∀ W, W5.grownBy W none → W.cell? ⟨k + 1, 0, none⟩ = some (.slice (some ⟨k + 1 + 1, 0, none⟩) no (no + 3)) ∧ W.cell? ⟨k + 1, 1, none⟩ = some (.slice (some ⟨g4, 0, none⟩) nm (nm + 3)) ∧ W.cell? ⟨k + 1, 2, none⟩ = some (.slice a5 nr c5)) := fun W hW => ⟨(X5.out.kept hW).cell (i := 0) (by omega), (X5.out.kept hW).cell (i := 1) (by omega), (X5.out.kept hW).cell (i := 2) (by omega)⟩
  obtain ⟨v0, v1, v2⟩ := XC.out W5 (grown_refl _ _)
  rw [hW5] at v0 v1 v2
  clear ho5 hg5 X5w hW5 X4 O4 P4 G4 HS4 hrs X5
  go_wp2_with fail
  rw [← HW5.out]
  clear z0 zf v0 v1 v2
  refine (CSV.out _ _ _ _ _ _ _ (GA.out W5 (grown_refl _ _))).mono ?_
  rintro E w6 ⟨bw, bm, Wf, Mf, rfl, hiw, him, hsol, hg6⟩
  have ngm : (gmOf zo zm R).n = no := HNs.out.1
  rw [ngm] at hiw him hsol ⊢
  have IW : Hid (∀ W, w6.grownBy W none → IRow W bw no no Wf) := fun W hW => hiw.kept hW
  have IM : Hid (∀ W, w6.grownBy W none → IRow W bm no no (dropF (gmOf zo zm R) Wf Mf)) := fun W hW => him.kept hW
  have HSo : Hid (Solved (gmOf zo zm R) (fun p => decide (p < no)) Wf Mf) := hsol
  have G6 : Hid (W5.grownBy w6 none) := hg6
  clear hiw him hsol hg6 ngm CSV
  obtain ⟨W7, hW7, g7, s7, bx7⟩ := box2_new w6 (.slice (some ⟨bw, 0, none⟩) no no) (.slice (some ⟨bm, 0, none⟩) no no) 37
  have HW7 : Hid (W7 = w6.alloc (.cells #[.slice (some ⟨bw, 0, none⟩) no no, .slice (some ⟨bm, 0, none⟩) no no] 37)) := hW7
  obtain ⟨kw, hkw⟩ : ∃ kw, w6.heap.size = kw := ⟨_, rfl⟩
  have HKw : Hid (w6.heap.size = kw) := hkw
  have G7 : Hid (W5.grownBy W7 none) := grown_trans G6.out g7
  have G67 : Hid (w6.grownBy W7 none) := g7
  have BW : Hid (∀ W', W7.grownBy W' none → W'.cell? ⟨kw, 0, none⟩ = some (.slice (some ⟨bw, 0, none⟩) no no) ∧ W'.cell? ⟨kw, 1, none⟩ = some (.slice (some ⟨bm, 0, none⟩) no no)) := by
    show ∀ W', _ → _
    rw [← hkw]; exact bx7
  obtain ⟨v0, v1, v2⟩ := XC.out W7 G7.out
  rw [hW7] at v0 v1 v2
  clear hW7 g7 s7 bx7 G6
  go_wp2_with fail
  rw [← HW7.out]
  try rw [hkw]
  clear v0 v1 v2 hkw HW7
  refine (CKP.out _ _ _ _ _ _ _ (GA.out W7 G7.out)).mono ?_
  rintro E w8 ⟨rfl, hg8⟩
  have T8 : Hid (W7.grownBy w8 none) := hg8
  obtain ⟨x0, x1, x2⟩ := BX.out w8 (grown_trans (grown_trans G5.out G7.out) hg8)
  clear hg8 CKP
  go_wp2_with fail
  clear x0 x1 x2
  refine (CKR.out _ (grown_trans G1.out (grown_trans (grown_trans G5.out G7.out) T8.out))).mono ?_
  rintro E w9 ⟨rfl, hg9⟩
  have T9 : Hid (W7.grownBy w9 none) := grown_trans T8.out hg9
  obtain ⟨x0, x1, x2⟩ := BX.out w9 (grown_trans (grown_trans G5.out G7.out) T9.out)
  obtain ⟨v0, v1, v2⟩ := XC.out w9 (grown_trans G7.out T9.out)
  clear hg9 CKR T8
  go_wp2_with fail
  clear x0 x1 x2 v0 v1 v2
  refine (CW0.out _ _ _ (grown_trans G1.out (grown_trans (grown_trans G5.out G7.out) T9.out)) (GA.out w9 (grown_trans G7.out T9.out)).own).mono ?_
  rintro E w10 ⟨rfl, hg10⟩
  have T10 : Hid (W7.grownBy w10 none) := grown_trans T9.out hg10
  obtain ⟨x0, x1, x2⟩ := BX.out w10 (grown_trans (grown_trans G5.out G7.out) T10.out)
  obtain ⟨v0, v1, v2⟩ := XC.out w10 (grown_trans G7.out T10.out)
  clear hg10 CW0 T9
  go_wp2_with fail
  clear x0 x1 x2 v0 v1 v2
  refine (CW1.out _ _ _ (grown_trans G1.out (grown_trans (grown_trans G5.out G7.out) T10.out)) (GA.out w10 (grown_trans G7.out T10.out)).mark).mono ?_
  rintro E w11 ⟨rfl, hg11⟩
  have T11 : Hid (W7.grownBy w11 none) := grown_trans T10.out hg11
  obtain ⟨x0, x1, x2⟩ := BX.out w11 (grown_trans (grown_trans G5.out G7.out) T11.out)
  obtain ⟨v0, v1, v2⟩ := XC.out w11 (grown_trans G7.out T11.out)
  clear hg11 CW1 T10
  go_wp2_with fail
  clear x0 x1 x2 v0 v1 v2
  refine (CSL.out _ _ _ (grown_trans G1.out (grown_trans (grown_trans G5.out G7.out) T11.out)) (GA.out w11 (grown_trans G7.out T11.out)).rows).mono ?_
  rintro E w12 ⟨rfl, hg12⟩
  have T12 : Hid (W7.grownBy w12 none) := grown_trans T11.out hg12
  have GF : Hid (w.grownBy w12 none) := grown_trans G1.out (grown_trans (grown_trans G5.out G7.out) T12.out)
  obtain ⟨x0, x1, x2⟩ := BX.out w12 (grown_trans (grown_trans G5.out G7.out) T12.out)
  obtain ⟨u0, u1⟩ := BW.out w12 T12.out
  clear hg12 CSL T11
  have h1 : ((no : Int) != (no : Int)) = false := by simp
  go_wp2_with fail
  clear u0 u1 x0 x1 x2
  go_loop [12] (fun i => ∃ p : Nat, p ≤ no ∧ i = .int .i64 p) (fun i => no - (intOf i).toNat)
  case atStart => exact ⟨0, Nat.zero_le _, rfl⟩
  case round =>
    obtain ⟨p, hp, rfl⟩ := hrel
    obtain ⟨x0, x1, x2⟩ := BX.out w12 (grown_trans (grown_trans G5.out G7.out) T12.out)
    obtain ⟨u0, u1⟩ := BW.out w12 T12.out
    by_cases hpn : p < no
    · have hpi : (p : Int) < (no : Int) := by omega
      have cw := (IW.out w12 (grown_trans G67.out T12.out)).cell hpn
      have hw01 := HSo.out.who p (by simpa using hpn)
      obtain ⟨wp, hwp⟩ : ∃ wp, Wf p = wp := ⟨_, rfl⟩
      rw [hwp] at cw hw01
      clear hwp
      rcases hw01 with rfl | rfl
      · go_wp2_with fail
        go_round
        case rel => exact ⟨p + 1, by omega, by go_num⟩
        case measure => simp [intOf]; omega
      · go_wp2_with fail
        go_round
        case rel => exact ⟨p + 1, by omega, by go_num⟩
        case measure => simp [intOf]; omega
    · have hpi : ¬ (p : Int) < (no : Int) := by omega
      go_wp2_with fail
      clear x0 x1 x2 u0 u1
      refine (CWN.out _ bw bm Wf Mf 0 GF.out (IW.out w12 (grown_trans G67.out T12.out)) (IM.out w12 (grown_trans G67.out T12.out)) HSo.out).mono ?_
      rintro E w13 ⟨rfl, hg13⟩
      have T13 : Hid (W7.grownBy w13 none) := grown_trans T12.out hg13
      have GF3 : Hid (w.grownBy w13 none) := grown_trans GF.out hg13
      obtain ⟨x0, x1, x2⟩ := BX.out w13 (grown_trans (grown_trans G5.out G7.out) T13.out)
      obtain ⟨u0, u1⟩ := BW.out w13 T13.out
      clear hg13
      go_wp2_with fail
      clear x0 x1 x2 u0 u1
      refine (CWN.out _ bw bm Wf Mf 1 GF3.out (IW.out w13 (grown_trans G67.out T13.out)) (IM.out w13 (grown_trans G67.out T13.out)) HSo.out).mono ?_
      rintro E w14 ⟨rfl, hg14⟩
      have GF4 : Hid (w.grownBy w14 none) := grown_trans GF3.out hg14
      clear hg14
      go_wp2_with fail
      go_ret
      exact ⟨rfl, GF4.out⟩

end Go.Proofs.Ytlnlgjbpkjfbjaa
