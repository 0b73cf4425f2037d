/- The program's Solve. -/
import Derived.Test.YtlnlgjbpkjfbjaaGOdd
namespace Go.Proofs.Ytlnlgjbpkjfbjaa
open Go.RowKit
set_option linter.unusedVariables false

theorem choose_g {α : Type} [Inhabited α] {P : Nat → α → Prop} {m : Nat} (h : ∀ i, i < m → ∃ q, P i q) : ∃ f : Nat → α, ∀ i, i < m → P i (f i) := by
  classical
  exact ⟨fun i => if hi : i < m then (h i hi).choose else default, fun i hi => by simp only [hi, dif_pos]; exact (h i hi).choose_spec⟩
theorem nats_of_ints {w : World} {x : Option Addr} {l : List Int} (h : Ints w x l) (h0 : ∀ k, k < l.length → 0 ≤ l.getD k 0) : NatsAt w x (l.map Int.toNat) := by
  rcases h with rfl | ⟨b, off, rfl, hc⟩
  · exact .inl rfl
  · refine .inr ⟨b, off, rfl, fun k hk => ?_⟩
    rw [List.length_map] at hk
    rw [hc k hk]
    have h1 := h0 k hk
    have e : (l.map Int.toNat).getD k 0 = (l.getD k 0).toNat := by simp [List.getD, hk]
    rw [e, Int.toNat_of_nonneg h1]
/-- A game that is right, in memory. -/
theorem gmAt_of {w : World} {zo zm : List Int} {R : List (List Int)} {ao am ax : Option Addr} (h : GArg w zo zm R ao am ax) (hc : checkG zo zm R = 0) (co cm cx : Nat) :
    ∃ B : Box, GmAt w (gmOf zo zm R) B ∧ Value.slice ao zo.length co = u0B B zo.length ∧ Value.slice am zm.length cm = u1B B zo.length ∧ Value.slice ax R.length cx = u2B B zo.length := by
  obtain ⟨hG, hM, hR⟩ := good_of_checkG hc
  have hn1 : 1 ≤ zo.length := hG.n1
  obtain ⟨b0, o0, rfl, h0⟩ := h.own.at (k := 0) (by omega)
  obtain ⟨b1, o1, rfl, h1⟩ := h.mark.at (k := 0) (by omega)
  obtain ⟨b2, o2, rfl, h2⟩ := h.rows.at (k := 0) (by omega)
  obtain ⟨f, hf⟩ := choose_g (α := Option Addr × Nat) (P := fun i q => w.cell? ⟨b2, o2 + i, none⟩ = some (.slice q.1 (R.getD i []).length q.2) ∧ Ints w q.1 (R.getD i []) ∧ (R.getD i []).length ≤ maxLen) (m := R.length) (fun i hi => by
    obtain ⟨x, c, e⟩ := h2 i hi
    exact ⟨(x, c), e⟩)
  have hrow : ∀ p, p < R.length → ∀ k, k < (R.getD p []).length → 0 ≤ (R.getD p []).getD k 0 := fun p hp k hk => by
    have hc2 := hc
    unfold checkG at hc2
    split at hc2
    · cases hc2
    · split at hc2
      · cases hc2
      · split at hc2
        · cases hc2
        · exact ((rowE_of (rowsE_of hc2 p hp)).2.1 k hk).1
  refine ⟨⟨0, 0, 0, b0, o0, co, b1, o1, cm, b2, o2, cx, fun p => (f p).1, fun p => (f p).2, 0, 0, 0, fun _ => none, fun _ => 0⟩, ⟨fun p hp => h0 p hp, fun p hp => h1 p (by rw [hM]; exact hp), fun p hp => ?_⟩, rfl, by rw [hM], by rw [hR]⟩
  have hp' : p < R.length := by rw [hR]; exact hp
  obtain ⟨e1, e2, _⟩ := hf p hp'
  refine ⟨?_, nats_of_ints e2 (hrow p hp')⟩
  show w.cell? ⟨b2, o2 + p, none⟩ = some (.slice (f p).1 ((R.getD p []).map Int.toNat).length (f p).2)
  rw [List.length_map]
  exact e1

theorem solE_boxes (w : World) (v0 v1 v2 : Value) : ∃ W, W = (w.alloc (.cells #[v0, v1, v2] 33)).alloc (.cells #[.slice none 0 0, .slice none 0 0] 37) ∧ w.grownBy W none ∧ (∀ W', W.grownBy W' none → W'.cell? ⟨w.heap.size, 0, none⟩ = some v0 ∧ W'.cell? ⟨w.heap.size, 1, none⟩ = some v1 ∧ W'.cell? ⟨w.heap.size, 2, none⟩ = some v2) ∧ RowB W (w.heap.size + 1) 37 2 2 (fun _ => .slice none 0 0) := by
  obtain ⟨W1, hW1, g1, s1, bx1⟩ := box3_new w v0 v1 v2 33
  have hb := heap_alloc_new (w.alloc (.cells #[v0, v1, v2] 33)) (.cells #[.slice none 0 0, .slice none 0 0] 37)
  rw [World.size_alloc] at hb
  refine ⟨_, rfl, grown_trans (grown_alloc _ _) (grown_alloc _ _), fun W' h => bx1 W' (hW1 ▸ grown_trans (grown_alloc _ _) h), ⟨_, hb, rfl, Nat.le_refl _, fun i hi => ?_⟩⟩
  match i, hi with
  | 0, _ => rfl
  | 1, _ => rfl

set_option maxHeartbeats 3200000 in
set_option maxRecDepth 100000 in
theorem solveE_bad (zo zm : List Int) (R : List (List Int)) (ao am ax : Option Addr) (co cm cx : Nat) (w : World) (h : GArg w zo zm R ao am ax) (e : Int) (he : checkG zo zm R = e) (he0 : e ≠ 0) :
    Calls Try.prog 10 #[gameV ao zo.length co am zm.length cm ax R.length cx] w (Says (.tuple #[.agg #[.slice none 0 0, .slice none 0 0], .int .i64 e]) w) := by
  have HC : Hid (∀ W, w.grownBy W none → Calls Try.prog 11 #[gameV ao zo.length co am zm.length cm ax R.length cx] W (Says (.int .i64 e) W)) := fun W hW => he ▸ checkP_any zo zm R ao am ax co cm cx W (h.grown hW)
  generalize zo.length = no at *
  generalize zm.length = nm at *
  generalize R.length = nr at *
  obtain ⟨W2, hW2, g2, bx, rw2⟩ := solE_boxes w (.slice ao no co) (.slice am nm cm) (.slice ax nr cx)
  obtain ⟨x0, x1, x2⟩ := bx W2 (grown_refl _ _)
  have HW2 : Hid (W2 = _) := hW2
  have G2 : Hid (w.grownBy W2 none) := g2
  have R2 : Hid (RowB W2 (w.heap.size + 1) 37 2 2 (fun _ => .slice none 0 0)) := rw2
  have he' : (e != 0) = true := by simpa using he0
  rw [hW2] at x0 x1 x2
  clear h he bx rw2 g2 hW2
  go_enter Try.func10, Try.ntmps10
  go_wp2_with fail
  rw [← HW2.out]
  refine (HC.out _ G2.out).mono ?_
  rintro E w3 ⟨rfl, hg3⟩
  have R3 : Hid (RowB w3 (w.heap.size + 1) 37 2 2 (fun _ => .slice none 0 0)) := R2.out.kept hg3
  have z0 := R3.out.cell (i := 0) (by omega)
  have z1 := R3.out.cell (i := 1) (by omega)
  have zf := R3.out.frozen
  obtain ⟨W9, hW9⟩ : ∃ W9, W9 = (w3.setCell ⟨w.heap.size + 1, 0, none⟩ (.slice none 0 0)).setCell ⟨w.heap.size + 1, 1, none⟩ (.slice none 0 0) := ⟨_, rfl⟩
  have r9 := (R3.out.set (i := 0) (by omega) (.slice none 0 0)).set (i := 1) (by omega) (.slice none 0 0)
  rw [← hW9] at r9
  have q0 := r9.cell (i := 0) (by omega)
  have q1 := r9.cell (i := 1) (by omega)
  simp at q0 q1
  have G9 : Hid (w.grownBy W9 none) := by
    rw [hW9]
    exact grown_new (grown_new (grown_trans G2.out hg3) (grown_set _ _ _) (show w.heap.size ≤ w.heap.size + 1 by omega)) (grown_set _ _ _) (show w.heap.size ≤ w.heap.size + 1 by omega)
  clear hg3 r9 HC
  go_wp2_with fail
  rw [← hW9]
  exact bodyPost_ret (v := .tuple #[.agg #[.slice none 0 0, .slice none 0 0], .int .i64 e]) (by simp [results, Try.results10, go_sem, q0, q1]) rfl ⟨rfl, G9.out⟩

def SolveEPost (G : Gm) (w : World) (E : Ending) (w' : World) : Prop :=
  ∃ bw bm W M, E = .returned (.tuple #[.agg #[.slice (some ⟨bw, 0, none⟩) G.n G.n, .slice (some ⟨bm, 0, none⟩) G.n G.n], .int .i64 0]) ∧ IRow w' bw G.n G.n W ∧ IRow w' bm G.n G.n (dropF G W M) ∧ Solved G (fun p => decide (p < G.n)) W M ∧ w.grownBy w' none

set_option maxHeartbeats 3200000 in
set_option maxRecDepth 100000 in
theorem solveE_good (zo zm : List Int) (R : List (List Int)) (ao am ax : Option Addr) (co cm cx : Nat) (w : World) (h : GArg w zo zm R ao am ax) (he : checkG zo zm R = 0) :
    Calls Try.prog 10 #[gameV ao zo.length co am zm.length cm ax R.length cx] w (SolveEPost (gmOf zo zm R) w) := by
  obtain ⟨B, hB, e0, e1, e2⟩ := gmAt_of h he co cm cx
  have HC : Hid (∀ W, w.grownBy W none → Calls Try.prog 11 #[gameV ao zo.length co am zm.length cm ax R.length cx] W (Says (.int .i64 0) W)) := fun W hW => he ▸ checkP_any zo zm R ao am ax co cm cx W (h.grown hW)
  have HS : Hid (∀ W, w.grownBy W none → Calls Try.prog 18 #[gameV ao zo.length co am zm.length cm ax R.length cx] W (SolvedPost (gmOf zo zm R) W)) := fun W hW => by
    have := solved_any (gmOf zo zm R) B W (good_of_checkG he).1 (hB.grown hW)
    show Calls _ _ #[.agg #[_, _, _]] _ _
    rw [e0, e1, e2]
    exact this
  obtain ⟨G, hG⟩ : ∃ G, gmOf zo zm R = G := ⟨_, rfl⟩
  rw [hG] at HS ⊢
  clear hB e0 e1 e2 h he hG
  generalize zo.length = no at *
  generalize zm.length = nm at *
  generalize R.length = nr at *
  obtain ⟨W2, hW2, g2, bx, rw2⟩ := solE_boxes w (.slice ao no co) (.slice am nm cm) (.slice ax nr cx)
  obtain ⟨x0, x1, x2⟩ := bx W2 (grown_refl _ _)
  have BX : Hid (∀ W', W2.grownBy W' none → W'.cell? ⟨w.heap.size, 0, none⟩ = some (.slice ao no co) ∧ W'.cell? ⟨w.heap.size, 1, none⟩ = some (.slice am nm cm) ∧ W'.cell? ⟨w.heap.size, 2, none⟩ = some (.slice ax nr cx)) := bx
  have HW2 : Hid (W2 = _) := hW2
  have G2 : Hid (w.grownBy W2 none) := g2
  have R2 : Hid (RowB W2 (w.heap.size + 1) 37 2 2 (fun _ => .slice none 0 0)) := rw2
  rw [hW2] at x0 x1 x2
  clear bx rw2 g2 hW2
  obtain ⟨Po, hPo⟩ : ∃ Po, Po = SolveEPost G w := ⟨_, rfl⟩
  have HPo : Hid (Po = SolveEPost G w) := hPo
  rw [← hPo]
  clear hPo
  go_enter Try.func10, Try.ntmps10
  go_wp2_with fail
  rw [← HW2.out]
  refine (HC.out _ G2.out).mono ?_
  rintro E w3 ⟨rfl, hg3⟩
  have R3 : Hid (RowB w3 (w.heap.size + 1) 37 2 2 (fun _ => .slice none 0 0)) := R2.out.kept hg3
  obtain ⟨x0, x1, x2⟩ := BX.out w3 hg3
  have G3 : Hid (w.grownBy w3 none) := grown_trans G2.out hg3
  clear HC hg3 R2
  go_wp2_with fail
  refine (HS.out _ G3.out).mono ?_
  rintro E w4 ⟨bw, bm, Wf, Mf, rfl, hiw, him, hsol, hg4⟩
  have R4 : Hid (RowB w4 (w.heap.size + 1) 37 2 2 (fun _ => .slice none 0 0)) := R3.out.kept hg4
  have ne1 : w.heap.size + 1 ≠ bw := fun e => by
    obtain ⟨c1, h1, _⟩ := R4.out
    obtain ⟨c2, h2, _⟩ := hiw
    rw [e, h2] at h1
    cases h1
  have ne2 : w.heap.size + 1 ≠ bm := fun e => by
    obtain ⟨c1, h1, _⟩ := R4.out
    obtain ⟨c2, h2, _⟩ := him
    rw [e, h2] at h1
    cases h1
  have z0 := R4.out.cell (i := 0) (by omega)
  have z1 := R4.out.cell (i := 1) (by omega)
  have zf := R4.out.frozen
  obtain ⟨n, hn⟩ : ∃ n, G.n = n := ⟨_, rfl⟩
  obtain ⟨W9, hW9⟩ : ∃ W9, W9 = (w4.setCell ⟨w.heap.size + 1, 0, none⟩ (.slice (some ⟨bw, 0, none⟩) n n)).setCell ⟨w.heap.size + 1, 1, none⟩ (.slice (some ⟨bm, 0, none⟩) n n) := ⟨_, rfl⟩
  have r9 := (R4.out.set (i := 0) (by omega) (.slice (some ⟨bw, 0, none⟩) n n)).set (i := 1) (by omega) (.slice (some ⟨bm, 0, none⟩) n n)
  rw [← hW9] at r9
  have q0 := r9.cell (i := 0) (by omega)
  have q1 := r9.cell (i := 1) (by omega)
  simp at q0 q1
  have Fin : Hid (SolveEPost G w (.returned (.tuple #[.agg #[.slice (some ⟨bw, 0, none⟩) n n, .slice (some ⟨bm, 0, none⟩) n n], .int .i64 0])) W9) := by
    refine ⟨bw, bm, Wf, Mf, by rw [hn], ?_, ?_, hsol, ?_⟩
    · rw [hW9]; exact (hiw.other (Ne.symm ne1) _).other (Ne.symm ne1) _
    · rw [hW9]; exact (him.other (Ne.symm ne2) _).other (Ne.symm ne2) _
    · rw [hW9]
      exact grown_new (grown_new (grown_trans G3.out hg4) (grown_set _ _ _) (show w.heap.size ≤ w.heap.size + 1 by omega)) (grown_set _ _ _) (show w.heap.size ≤ w.heap.size + 1 by omega)
  rw [hn]
  clear hiw him hsol hg4 r9 HS hn x0 x1 x2
  go_wp2_with fail
  rw [← hW9]
  exact bodyPost_ret (v := .tuple #[.agg #[.slice (some ⟨bw, 0, none⟩) n n, .slice (some ⟨bm, 0, none⟩) n n], .int .i64 0]) (by simp [results, Try.results10, go_sem, q0, q1]) rfl (by rw [HPo.out]; exact Fin.out)

end Go.Proofs.Ytlnlgjbpkjfbjaa
