/- How many letters the reference's parts have, and the greatest (R2.Letters); and the reference's automaton of a text (R15.Det). -/
/- The reference's automaton of a text (R15.Det). -/
import Derived.Test.YtkkmdcnbifepjaaDoorPDE
import Derived.Test.YtkkmdcnbifepjaaDoorSMade
import Derived.Test.YtkkmdcnbifepjaaDoorPPlc
import Derived.Test.YtkkmdcnbifepjaaDoorPDd
namespace Go.Proofs.YtkkmdcnbifepjaaDoor
open Go.RowKit
set_option linter.unusedVariables false

theorem step_at (q : PartR) (S : PS) : (stepS q S).at_ = if q.kind = 2 then S.at_ + 1 else S.at_ := by
  unfold stepS
  by_cases h1 : q.kind = 1
  · rw [if_pos h1, if_neg (by omega)]
  · rw [if_neg h1]
    by_cases h2 : q.kind = 2
    · rw [if_pos h2, if_pos h2]
    · rw [if_neg h2, if_neg h2]
      split
      · rfl
      · split
        · rfl
        · split <;> rfl

set_option maxHeartbeats 1600000 in
set_option maxRecDepth 100000 in
theorem lettersR_any (ps : List PartR) (hps : ps.length ≤ 13000) (h0 : 0 < ps.length) (w : World) (L : Value) (hL : PL w L ps) :
    Calls Tryd.prog 25 #[L] w fun E w' => E = .returned (.tuple #[.int .i64 ((runS ps ps.length).at_ : Int), .int .i64 (glS ps ps.length)]) ∧ w' = w := by
  obtain ⟨gL, capL, rfl, _, _⟩ := hL.own.form h0
  have HL : Hid (PL w (.slice (some ⟨gL, 0, none⟩) ps.length capL) ps) := hL
  have HA : Hid (∀ i, (runS ps (i + 1)).at_ = if (ps.getD i p0).kind = 2 then (runS ps i).at_ + 1 else (runS ps i).at_) := fun i => step_at _ _
  have HG : Hid (∀ i, glS ps (i + 1) = if (ps.getD i p0).kind = 2 ∧ glS ps i < (ps.getD i p0).let_ then (ps.getD i p0).let_ else glS ps i) := fun i => rfl
  have HAl : Hid (∀ i, (runS ps i).at_ ≤ i) := fun i => by
    induction i with
    | zero => exact Nat.le_refl _
    | succ i ih => rw [HA.out]; split <;> omega
  clear hL
  go_enter Tryd.func25, Tryd.ntmps25
  go_wp2_with fail
  go_loop [4, 5, 6] (fun a g v => ∃ i : Nat, i ≤ ps.length ∧ v = .int .i64 i ∧ a = .int .i64 ((runS ps i).at_ : Int) ∧ g = .int .i64 (glS ps i)) (fun _ _ v => ps.length - (intOf v).toNat)
  case atStart => exact ⟨0, Nat.zero_le _, rfl, rfl, rfl⟩
  case round =>
    obtain ⟨i, hi, rfl, rfl, rfl⟩ := hrel
    by_cases hlt : i < ps.length
    · have hii : (i : Int) < (ps.length : Int) := by omega
      obtain ⟨p, hp⟩ : ∃ p, ps[i]? = some p := ⟨_, List.getElem?_eq_getElem hlt⟩
      obtain ⟨gL', capL', eL, cl0, cl1, cl2⟩ := HL.out.get hp
      cases eL
      have HA1 : Hid _ := HA.out i
      have HG1 : Hid _ := HG.out i
      have hal := HAl.out i
      rw [get_of hp] at HA1 HG1
      generalize (runS ps i).at_ = a at *
      generalize glS ps i = g at *
      obtain ⟨kd, hkd⟩ : ∃ kd, p.kind = kd := ⟨_, rfl⟩
      obtain ⟨lt, hlet⟩ : ∃ lt, p.let_ = lt := ⟨_, rfl⟩
      rw [hkd] at cl0 HA1 HG1
      rw [hlet] at cl1 HG1
      clear cl2 hp hkd hlet
      by_cases h2 : kd = 2
      · have h2' : (kd == 2) = true := by simpa using h2
        have HA2 : Hid ((runS ps (i + 1)).at_ = a + 1) := by show _ = _; rw [HA1.out, if_pos h2]
        by_cases hg : g < lt
        · have hg' : decide (g < lt) = true := by simpa using hg
          have HG2 : Hid (glS ps (i + 1) = lt) := by show _ = _; rw [HG1.out, if_pos ⟨h2, hg⟩]
          clear HA1 HG1 h2
          go_wp2_with fail
          go_round
          case rel => exact ⟨i + 1, by omega, by go_num, by rw [HA2.out]; go_num, by rw [HG2.out]⟩
          case measure => simp [intOf]; omega
        · have hg' : decide (g < lt) = false := by simpa using hg
          have HG2 : Hid (glS ps (i + 1) = g) := by show _ = _; rw [HG1.out, if_neg (fun x => hg x.2)]
          clear HA1 HG1 h2
          go_wp2_with fail
          go_round
          case rel => exact ⟨i + 1, by omega, by go_num, by rw [HA2.out]; go_num, by rw [HG2.out]⟩
          case measure => simp [intOf]; omega
      · have h2' : (kd == 2) = false := by simpa using h2
        have HA2 : Hid ((runS ps (i + 1)).at_ = a) := by show _ = _; rw [HA1.out, if_neg h2]
        have HG2 : Hid (glS ps (i + 1) = g) := by show _ = _; rw [HG1.out, if_neg (fun x => h2 x.1)]
        clear HA1 HG1 h2
        go_wp2_with fail
        go_round
        case rel => exact ⟨i + 1, by omega, by go_num, by rw [HA2.out], by rw [HG2.out]⟩
        case measure => simp [intOf]; omega
    · have hii : ¬ (i : Int) < (ps.length : Int) := by omega
      have hil : i = ps.length := by omega
      subst hil
      go_wp2_with fail
      go_ret2
      exact ⟨rfl, rfl⟩

end Go.Proofs.YtkkmdcnbifepjaaDoor

namespace Go.Proofs.YtkkmdcnbifepjaaDoor
open Go.RowKit
set_option linter.unusedVariables false

/-- What R15.Det refuses. -/
def detR (L : Int) (a : Nat) (g : Int) : Int := if L < 1 ∨ 4 < L ∨ L ≤ g then 2 else if 10 < a then 7 else 0

set_option maxHeartbeats 1600000 in
set_option maxRecDepth 100000 in
theorem detR_bad (L g : Int) (a : Nat) (hb : detR L a g ≠ 0) (V : Value) (w : World) (HL : Hid (∀ W, w.grownBy W none → Calls Tryd.prog 25 #[V] W fun E w' => E = .returned (.tuple #[.int .i64 (a : Int), .int .i64 g]) ∧ w' = W)) :
    Calls Tryd.prog 8 #[.int .i64 L, V] w (Says (.tuple #[.agg #[.int .i64 0, .int .i64 0, .slice none 0 0, .slice none 0 0], .int .i64 (detR L a g)]) w) := by
  obtain ⟨W1, hW1⟩ : ∃ W1, W1 = w.alloc (.cells #[.int .i64 0, .int .i64 0, .slice none 0 0, .slice none 0 0] 25) := ⟨_, rfl⟩
  have HW1 : Hid (W1 = w.alloc (.cells #[.int .i64 0, .int .i64 0, .slice none 0 0, .slice none 0 0] 25)) := hW1
  have G1 : Hid (w.grownBy W1 none) := by show World.grownBy _ _ _; rw [hW1]; exact grown_alloc _ _
  have K9 : W1.heap[w.heap.size]? = some (.cells #[.int .i64 0, .int .i64 0, .slice none 0 0, .slice none 0 0] 25 (0, 0)) := by rw [hW1]; exact heap_alloc_new w _
  obtain ⟨r0, r1, r2, r3, rz⟩ := block_cells K9
  have rz0 := rz 0
  have rz1 := rz 1
  have rz2 := rz 2
  have rz3 := rz 3
  obtain ⟨W9, hW9, hg9, q0, q1, q2, q3⟩ := det_store K9 (.int .i64 0) (.int .i64 0) (.slice none 0 0) (.slice none 0 0)
  have G9 : Hid (w.grownBy W9 none) := grown_new G1.out hg9 (Nat.le_refl _)
  clear K9 rz hg9 hW1
  have go : ∀ y : Int, detR L a g = y → Says (.tuple #[.agg #[.int .i64 0, .int .i64 0, .slice none 0 0, .slice none 0 0], .int .i64 (detR L a g)]) w = Says (.tuple #[.agg #[.int .i64 0, .int .i64 0, .slice none 0 0, .slice none 0 0], .int .i64 y]) w := fun y h => by rw [h]
  by_cases h1 : L < 1
  · have i1 : decide (L < 1) = true := by simpa using h1
    rw [go 2 (by unfold detR; rw [if_pos (.inl h1)])]
    clear go hb
    go_enter Tryd.func8, Tryd.ntmps8
    go_wp2_with fail
    rw [← HW1.out]
    refine (HL.out _ G1.out).mono ?_
    rintro E w2 ⟨rfl, rfl⟩
    clear HW1
    go_wp2_with fail
    rw [← hW9]
    exact bodyPost_ret (v := .tuple #[.agg #[.int .i64 0, .int .i64 0, .slice none 0 0, .slice none 0 0], .int .i64 2]) (by simp [results, Tryd.results8, go_sem, q0, q1, q2, q3]) rfl ⟨rfl, G9.out⟩
  have i1 : decide (L < 1) = false := by simpa using h1
  by_cases h2 : 4 < L
  · have i2 : decide (4 < L) = true := by simpa using h2
    rw [go 2 (by unfold detR; rw [if_pos (.inr (.inl h2))])]
    clear go hb
    go_enter Tryd.func8, Tryd.ntmps8
    go_wp2_with fail
    rw [← HW1.out]
    refine (HL.out _ G1.out).mono ?_
    rintro E w2 ⟨rfl, rfl⟩
    clear HW1
    go_wp2_with fail
    rw [← hW9]
    exact bodyPost_ret (v := .tuple #[.agg #[.int .i64 0, .int .i64 0, .slice none 0 0, .slice none 0 0], .int .i64 2]) (by simp [results, Tryd.results8, go_sem, q0, q1, q2, q3]) rfl ⟨rfl, G9.out⟩
  have i2 : decide (4 < L) = false := by simpa using h2
  by_cases h3 : L ≤ g
  · have i3 : decide (L ≤ g) = true := by simpa using h3
    rw [go 2 (by unfold detR; rw [if_pos (.inr (.inr h3))])]
    clear go hb
    go_enter Tryd.func8, Tryd.ntmps8
    go_wp2_with fail
    rw [← HW1.out]
    refine (HL.out _ G1.out).mono ?_
    rintro E w2 ⟨rfl, rfl⟩
    clear HW1
    go_wp2_with fail
    rw [← hW9]
    exact bodyPost_ret (v := .tuple #[.agg #[.int .i64 0, .int .i64 0, .slice none 0 0, .slice none 0 0], .int .i64 2]) (by simp [results, Tryd.results8, go_sem, q0, q1, q2, q3]) rfl ⟨rfl, G9.out⟩
  have i3 : decide (L ≤ g) = false := by simpa using h3
  by_cases h4 : 10 < a
  · have i4 : decide ((10 : Int) < (a : Int)) = true := by simp; omega
    rw [go 7 (by unfold detR; rw [if_neg (by omega), if_pos h4])]
    clear go hb
    go_enter Tryd.func8, Tryd.ntmps8
    go_wp2_with fail
    rw [← HW1.out]
    refine (HL.out _ G1.out).mono ?_
    rintro E w2 ⟨rfl, rfl⟩
    clear HW1
    go_wp2_with fail
    rw [← hW9]
    exact bodyPost_ret (v := .tuple #[.agg #[.int .i64 0, .int .i64 0, .slice none 0 0, .slice none 0 0], .int .i64 7]) (by simp [results, Tryd.results8, go_sem, q0, q1, q2, q3]) rfl ⟨rfl, G9.out⟩
  · exact absurd (by unfold detR; rw [if_neg (by omega), if_neg h4]) hb

set_option maxHeartbeats 1600000 in
set_option maxRecDepth 100000 in
theorem detR_good (l n q : Nat) (g : Int) (T : List StepI) (F : List Int) (hl1 : 1 ≤ l) (hl4 : l ≤ 4) (hn : n ≤ 10) (hg : g < l) (hT : InT T l (n + 1 : Nat)) (hF : InR F (n + 1 : Nat)) (hTl : T.length ≤ 1000) (hFl : F.length ≤ 1000) (V : Value) (w : World)
    (HL : Hid (∀ W, w.grownBy W none → Calls Tryd.prog 25 #[V] W fun E w' => E = .returned (.tuple #[.int .i64 (n : Int), .int .i64 g]) ∧ w' = W))
    (HP : Hid (∀ W, w.grownBy W none → Calls Tryd.prog 26 #[.int .i64 (l : Int), V, .int .i64 (n : Int)] W fun E w' => ∃ a c b d e f, E = .returned (autV (l : Int) ((n : Int) + 1) a 1 c b T.length d e F.length f) ∧ AutAt w' ⟨l, (n : Int) + 1, [(n : Int)], T, F⟩ a b e ∧ W.grownBy w' none)) :
    Calls Tryd.prog 8 #[.int .i64 (l : Int), V] w (LeastGPost (dset T) (mset F) (2 ^ (n + 1)) l (2 ^ n) w) := by
  obtain ⟨W1, hW1⟩ : ∃ W1, W1 = w.alloc (.cells #[.int .i64 0, .int .i64 0, .slice none 0 0, .slice none 0 0] 25) := ⟨_, rfl⟩
  have HW1 : Hid (W1 = w.alloc (.cells #[.int .i64 0, .int .i64 0, .slice none 0 0, .slice none 0 0] 25)) := hW1
  have G1 : Hid (w.grownBy W1 none) := by show World.grownBy _ _ _; rw [hW1]; exact grown_alloc _ _
  have BK : Hid (∀ W, W1.grownBy W none → W.heap[w.heap.size]? = some (.cells #[.int .i64 0, .int .i64 0, .slice none 0 0, .slice none 0 0] 25 (0, 0))) := fun W hW => (hW.block _ (by rw [hW1]; simp) (by simp)).trans (by rw [hW1]; exact heap_alloc_new w _)
  have HZ1 : Hid (W1.heap.size = w.heap.size + 1) := by show _ = _; rw [hW1]; simp
  have HSt : Hid (∀ W a b e c d f, AutAt W ⟨l, (n : Int) + 1, [(n : Int)], T, F⟩ a b e → Calls Tryd.prog 27 #[autV (l : Int) ((n : Int) + 1) a 1 c b T.length d e F.length f] W (LeastPost (dset T) (mset F) (2 ^ (n + 1)) l (2 ^ n) W)) := fun W a b e c d f h => by
    have := setsR_any ⟨l, (n : Int) + 1, [(n : Int)], T, F⟩ l (n + 1) n rfl (by simp) (by omega) hl1 hl4 (by simp only; omega) hT hF rfl (by omega) a b e c d f W h
    simpa using this
  obtain ⟨Po, hPo⟩ : ∃ Po, Po = LeastGPost (dset T) (mset F) (2 ^ (n + 1)) l (2 ^ n) w := ⟨_, rfl⟩
  have HPo : Hid (Po = LeastGPost (dset T) (mset F) (2 ^ (n + 1)) l (2 ^ n) w) := hPo
  rw [← hPo]
  have i1 : decide ((l : Int) < 1) = false := by simp; omega
  have i2 : decide ((4 : Int) < (l : Int)) = false := by simp; omega
  have i3 : decide ((l : Int) ≤ g) = false := by simp; omega
  have i4 : decide ((10 : Int) < (n : Int)) = false := by simp; omega
  clear hW1 hPo hT hF hTl hFl hg
  go_enter Tryd.func8, Tryd.ntmps8
  go_wp2_with fail
  rw [← HW1.out]
  refine (HL.out _ G1.out).mono ?_
  rintro E w2 ⟨rfl, rfl⟩
  clear HW1
  go_wp2_with fail
  refine (HP.out _ G1.out).mono ?_
  rintro E w3 ⟨a, c, b, d, e, f, rfl, hA, hg3⟩
  obtain ⟨W3, hW3⟩ : ∃ W3, W3 = w3.alloc (.cells #[.int .i64 (l : Int), .int .i64 ((n : Int) + 1), .slice a 1 c, .slice b T.length d, .slice e F.length f] 65) := ⟨_, rfl⟩
  have HW3 : Hid (W3 = w3.alloc (.cells #[.int .i64 (l : Int), .int .i64 ((n : Int) + 1), .slice a 1 c, .slice b T.length d, .slice e F.length f] 65)) := hW3
  have g3 : w3.grownBy W3 none := by rw [hW3]; exact grown_alloc _ _
  have G3 : Hid (w2.grownBy W3 none) := grown_trans hg3 g3
  have CS : Hid (Calls Tryd.prog 27 #[autV (l : Int) ((n : Int) + 1) a 1 c b T.length d e F.length f] W3 (LeastPost (dset T) (mset F) (2 ^ (n + 1)) l (2 ^ n) W3)) := HSt.out W3 a b e c d f (hA.grown g3)
  have hb3 := heap_alloc_new w3 (.cells #[.int .i64 (l : Int), .int .i64 ((n : Int) + 1), .slice a 1 c, .slice b T.length d, .slice e F.length f] 65)
  have y0 : (w3.alloc (.cells #[.int .i64 (l : Int), .int .i64 ((n : Int) + 1), .slice a 1 c, .slice b T.length d, .slice e F.length f] 65)).cell? ⟨w3.heap.size, 0, none⟩ = some (.int .i64 (l : Int)) := by rw [cell_of_row _ _ _ _ _ (0, 0) hb3]; rfl
  have y1 : (w3.alloc (.cells #[.int .i64 (l : Int), .int .i64 ((n : Int) + 1), .slice a 1 c, .slice b T.length d, .slice e F.length f] 65)).cell? ⟨w3.heap.size, 1, none⟩ = some (.int .i64 ((n : Int) + 1)) := by rw [cell_of_row _ _ _ _ _ (0, 0) hb3]; rfl
  have y2 : (w3.alloc (.cells #[.int .i64 (l : Int), .int .i64 ((n : Int) + 1), .slice a 1 c, .slice b T.length d, .slice e F.length f] 65)).cell? ⟨w3.heap.size, 2, none⟩ = some (.slice a 1 c) := by rw [cell_of_row _ _ _ _ _ (0, 0) hb3]; rfl
  have y3 : (w3.alloc (.cells #[.int .i64 (l : Int), .int .i64 ((n : Int) + 1), .slice a 1 c, .slice b T.length d, .slice e F.length f] 65)).cell? ⟨w3.heap.size, 3, none⟩ = some (.slice b T.length d) := by rw [cell_of_row _ _ _ _ _ (0, 0) hb3]; rfl
  have y4 : (w3.alloc (.cells #[.int .i64 (l : Int), .int .i64 ((n : Int) + 1), .slice a 1 c, .slice b T.length d, .slice e F.length f] 65)).cell? ⟨w3.heap.size, 4, none⟩ = some (.slice e F.length f) := by rw [cell_of_row _ _ _ _ _ (0, 0) hb3]; rfl
  clear hA hg3 g3 hW3 hb3
  go_wp2_with fail
  rw [← HW3.out]
  clear HW3 y0 y1 y2 y3 y4
  refine CS.out.mono ?_
  rintro E w6 ⟨aR6, cR6, aM6, cM6, rs6, M6, rfl, hlo, hn6, hm6, hr6, ho6, hg6⟩
  have K6 := BK.out w6 (grown_trans G3.out hg6)
  obtain ⟨r0, r1, r2, r3, rz⟩ := block_cells K6
  have rz0 := rz 0
  have rz1 := rz 1
  have rz2 := rz 2
  have rz3 := rz 3
  obtain ⟨W9, hW9, hg9, q0, q1, q2, q3⟩ := det_store K6 (.int .i64 (l : Int)) (.int .i64 0) (.slice aR6 rs6.length cR6) (.slice aM6 M6.length cM6)
  have hsz : w.heap.size < W3.heap.size := by have h1 := G3.out.size; have h2 := HZ1.out; omega
  have Fin : Hid (Po (.returned (.tuple #[.agg #[.int .i64 l, .int .i64 0, .slice aR6 rs6.length cR6, .slice aM6 M6.length cM6], .int .i64 0])) W9) := by
    show Po _ _
    rw [HPo.out]
    exact ⟨_, rfl, aR6, cR6, aM6, cM6, rs6, M6, rfl, hlo, hn6, hm6, hr6, (ho6.below hg9 (by omega)).base (by omega), grown_new (grown_trans G1.out (grown_trans G3.out hg6)) hg9 (Nat.le_refl _)⟩
  clear hlo hn6 hm6 hr6 ho6 hg6 hg9 rz K6 CS
  generalize rs6.length = nr at *
  generalize M6.length = nm at *
  go_wp2_with fail
  rw [← hW9]
  exact bodyPost_ret (v := .tuple #[.agg #[.int .i64 l, .int .i64 0, .slice aR6 nr cR6, .slice aM6 nm cM6], .int .i64 0]) (by simp [results, Tryd.results8, go_sem, q0, q1, q2, q3]) rfl Fin.out

end Go.Proofs.YtkkmdcnbifepjaaDoor
