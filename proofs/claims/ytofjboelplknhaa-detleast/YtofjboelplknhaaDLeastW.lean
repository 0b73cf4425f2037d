/- The walk of the law DetLeast, case by case, out of the contracts of what it calls. -/
import Derived.Test.YtofjboelplknhaaRWalk
import Derived.Test.YtofjboelplknhaaRApartW
import Derived.Test.YtofjboelplknhaaAApart
import Derived.Test.YtofjboelplknhaaAWrap
import Derived.Test.YtofjboelplknhaaHWrap
import Derived.Test.YtofjboelplknhaaLSpoilD
import Derived.Test.YtofjboelplknhaaRWords
import Derived.Test.YtofjboelplknhaaRNoDet
import Derived.Test.YtofjboelplknhaaDRCheck
import Derived.Test.YtofjboelplknhaaDSays
namespace Go.Proofs.Ytofjboelplknhaa
open Go.RowKit
set_option linter.unusedVariables false

/-- A copy of an automaton. -/
def CopyPost (L S : Int) (R : List (List Int)) (M : List Int) (w : World) (e : Ending) (w' : World) : Prop :=
  ∃ (aR : Option Addr) (cR : Nat) (aM : Option Addr) (cM : Nat), e = .returned (detV L S aR R.length cR aM M.length cM) ∧ DetAt w' ⟨L, S, R, M⟩ aR aM ∧ w.grownBy w' none
theorem copy_of_detOf {L S : Int} {R : List (List Int)} {M : List Int} {w w' : World} {e : Ending} (h : DetOfPost L S R M w e w') (hn : R.length ≤ maxLen) (hm : ∀ i, i < R.length → (R.getD i []).length ≤ maxLen) (hM : M.length ≤ maxLen) : CopyPost L S R M w e w' := by
  obtain ⟨vR, vM, rs, he, hrs, ho, hg⟩ := h
  obtain ⟨_, aM, cM, hvM⟩ := ho.head
  obtain ⟨_, aR, cR, hvR⟩ := ho.tail.head
  simp only [vals_len] at hvM
  simp only [List.length_map] at hvR
  have hrl : rs.length = R.length := by rw [← hrs, List.length_map]
  rw [hvR, hvM] at ho
  refine ⟨aR, cR, aM, cM, by rw [he, hvR, hvM, hrl], ?_, hg⟩
  have h2 := det_of_owns (L := L) (S := S) (its := []) (by rw [List.append_nil]; exact at_2 ho) (fun x hx => by
    obtain ⟨i, hi, rfl⟩ := List.getElem_of_mem hx
    have h3 := hm i (by omega)
    have e1 : R.getD i [] = rs[i].2 := by rw [← hrs]; simp [List.getD, hi]
    rw [e1] at h3
    exact h3) (by omega) hM
  rw [hrs] at h2
  exact h2
set_option maxHeartbeats 1600000 in
set_option maxRecDepth 100000 in
theorem dleast_A (L S p q y : Int) (R : List (List Int)) (M : List Int) (a a' : Option Addr) (c c' : Nat) (w : World) (hy : y ≠ 0)
    (HDO : Hid (∀ W, w.grownBy W none → Calls Try.prog 9 #[detV L S a R.length c a' M.length c'] W (CopyPost L S R M W)))
    (HLe : Hid (∀ W aR cR aM cM, DetAt W ⟨L, S, R, M⟩ aR aM → Calls Try.prog 10 #[detV L S aR R.length cR aM M.length cM] W (Says (.tuple #[detV 0 0 none 0 0 none 0 0, .int .i64 y]) W)))
    (HAp : Hid (∀ W aR cR aM cM, DetAt W ⟨L, S, R, M⟩ aR aM → Calls Try.prog 11 #[detV L S aR R.length cR aM M.length cM, .int .i64 p, .int .i64 q] W (Says (.tuple #[.slice none 0 0, .bool false, .int .i64 y]) W)))
    (HSm : Hid (∀ W aR cR aM cM, w.grownBy W none → DetAt W ⟨L, S, R, M⟩ aR aM → Calls Try.prog 12 #[detV L S aR R.length cR aM M.length cM, detV L S a R.length c a' M.length c'] W (Says (.bool true) W)))
    (HCk : Hid (∀ W, w.grownBy W none → Calls Try.prog 13 #[detV L S a R.length c a' M.length c'] W (Says (.int .i64 y) W)))
    (HNo : Hid (∀ W, Calls Try.prog 14 #[detV 0 0 none 0 0 none 0 0] W (Says (.bool true) W)))
    : Calls Try.prog 3 #[detV L S a R.length c a' M.length c', .int .i64 p, .int .i64 q] w (Says (.bool true) w) := by
  have f1 : (y != 0) = true := by simpa using hy
  have f2 : (y == 0) = false := by simpa using hy
  obtain ⟨n, hn⟩ : ∃ n, R.length = n := ⟨_, rfl⟩
  obtain ⟨m, hm⟩ : ∃ m, M.length = m := ⟨_, rfl⟩
  unfold CopyPost at HDO
  rw [hn, hm] at HDO HLe HAp HSm HCk ⊢
  obtain ⟨W0, hW0, g0, s0, bx0⟩ := box_new w (.int .i64 L) (.int .i64 S) (.slice a n c) (.slice a' m c') 25
  have HW0 : Hid (W0 = _) := hW0
  have G0 : Hid (w.grownBy W0 none) := g0
  have Bd : Hid (∀ W', W0.grownBy W' none → W'.cell? ⟨w.heap.size, 0, none⟩ = some (.int .i64 L) ∧ W'.cell? ⟨w.heap.size, 1, none⟩ = some (.int .i64 S) ∧ W'.cell? ⟨w.heap.size, 2, none⟩ = some (.slice a n c) ∧ W'.cell? ⟨w.heap.size, 3, none⟩ = some (.slice a' m c')) := bx0
  clear hn hm hy hW0 g0 bx0 s0
  go_enter Try.func3, Try.ntmps3
  go_wp2_with fail
  rw [← HW0.out]
  refine (HDO.out _ G0.out).mono ?_
  rintro e w1 ⟨aR, cR, aM, cM, rfl, hd1, hg1⟩
  obtain ⟨W1, hW1, g1, s1, bx1⟩ := box_new w1 (.int .i64 L) (.int .i64 S) (.slice aR n cR) (.slice aM m cM) 25
  have HW1 : Hid (W1 = _) := hW1
  have X1 : Hid (DetAt W1 ⟨L, S, R, M⟩ aR aM) := hd1.grown g1
  have G1 : Hid (W0.grownBy W1 none) := grown_trans hg1 g1
  have Bx : Hid (∀ W', W1.grownBy W' none → W'.cell? ⟨w1.heap.size, 0, none⟩ = some (.int .i64 L) ∧ W'.cell? ⟨w1.heap.size, 1, none⟩ = some (.int .i64 S) ∧ W'.cell? ⟨w1.heap.size, 2, none⟩ = some (.slice aR n cR) ∧ W'.cell? ⟨w1.heap.size, 3, none⟩ = some (.slice aM m cM)) := bx1
  clear hd1 hg1 hW1 g1 s1 bx1 HDO
  go_wp2_with fail
  rw [← HW1.out]
  refine (HLe.out _ _ _ _ _ X1.out).mono ?_
  rintro e w2 ⟨rfl, hg2⟩
  obtain ⟨W2, hW2, g2, s2, bx2⟩ := box_new w2 (.int .i64 0) (.int .i64 0) (.slice none 0 0) (.slice none 0 0) 25
  have HW2 : Hid (W2 = _) := hW2
  have X2 : Hid (DetAt W2 ⟨L, S, R, M⟩ aR aM) := X1.out.grown (grown_trans hg2 g2)
  have G2 : Hid (W1.grownBy W2 none) := grown_trans hg2 g2
  have Bl : Hid (∀ W', W2.grownBy W' none → W'.cell? ⟨w2.heap.size, 0, none⟩ = some (.int .i64 0) ∧ W'.cell? ⟨w2.heap.size, 1, none⟩ = some (.int .i64 0) ∧ W'.cell? ⟨w2.heap.size, 2, none⟩ = some (.slice none 0 0) ∧ W'.cell? ⟨w2.heap.size, 3, none⟩ = some (.slice none 0 0)) := bx2
  obtain ⟨x0, x1, x2, x3⟩ := Bx.out _ G2.out
  rw [hW2] at x0 x1 x2 x3
  clear hg2 hW2 g2 s2 bx2 HLe X1 HW1
  go_wp2_with fail
  rw [← HW2.out]
  refine (HAp.out _ _ _ _ _ X2.out).mono ?_
  rintro e w3 ⟨rfl, hg3⟩
  have X3 : Hid (DetAt w3 ⟨L, S, R, M⟩ aR aM) := X2.out.grown hg3
  have G3 : Hid (W2.grownBy w3 none) := hg3
  have GW3 : Hid (W0.grownBy w3 none) := grown_trans G1.out (grown_trans G2.out hg3)
  clear x0 x1 x2 x3 HAp X2 HW2
  obtain ⟨x0, x1, x2, x3⟩ := Bx.out _ (grown_trans G2.out hg3)
  obtain ⟨d0, d1, d2, d3⟩ := Bd.out _ GW3.out
  clear hg3
  go_wp2_with fail
  refine (HSm.out _ _ _ _ _ (grown_trans G0.out GW3.out) X3.out).mono ?_
  rintro e w4 ⟨rfl, hg4⟩
  have G4 : Hid (W2.grownBy w4 none) := grown_trans G3.out hg4
  have GW4 : Hid (W0.grownBy w4 none) := grown_trans GW3.out hg4
  clear x0 x1 x2 x3 d0 d1 d2 d3 HSm X3 hg4 G3 GW3
  obtain ⟨d0, d1, d2, d3⟩ := Bd.out _ GW4.out
  go_wp2_with fail
  refine (HCk.out _ (grown_trans G0.out GW4.out)).mono ?_
  rintro e w5 ⟨rfl, hg5⟩
  have G5 : Hid (W2.grownBy w5 none) := grown_trans G4.out hg5
  have GW5 : Hid (W0.grownBy w5 none) := grown_trans GW4.out hg5
  clear d0 d1 d2 d3 HCk hg5 G4 GW4
  obtain ⟨l0, l1, l2, l3⟩ := Bl.out _ G5.out
  go_wp2_with fail
  refine (HNo.out _).mono ?_
  rintro e w6 ⟨rfl, hg6⟩
  have GW6 : Hid (w.grownBy w6 none) := grown_trans G0.out (grown_trans GW5.out hg6)
  clear l0 l1 l2 l3 HNo hg6 G5 GW5
  go_wp2_with fail
  go_ret
  exact ⟨rfl, GW6.out⟩


/-- What Apart of the program answers: what holds of it is told by F. -/
def WordPost2 (F : List Nat → Bool → Int → Prop) (w : World) (e : Ending) (w' : World) : Prop :=
  ∃ (zs : List Nat) (is : Bool) (g : Int) (az : Option Addr) (cz : Nat), e = .returned (.tuple #[.slice az zs.length cz, .bool is, .int .i64 g]) ∧ F zs is g ∧ Owns w.heap.size w' [(3, .slice az zs.length cz, vals (natInts zs))] ∧ w.grownBy w' none

set_option maxHeartbeats 1600000 in
set_option maxRecDepth 100000 in
theorem dleast_B (S p q : Int) (l s0 : Nat) (R : List (List Int)) (M : List Int) (a a' : Option Addr) (c c' : Nat) (w : World) (δ : Nat → Nat → Nat) (mk : Nat → Bool) (F : List Nat → Bool → Int → Prop) (F' : List Nat → Bool → Prop) (hn3 : R.length ≤ 3000) (hl4 : l ≤ 4)
    (HDO : Hid (∀ W, w.grownBy W none → Calls Try.prog 9 #[detV l S a R.length c a' M.length c'] W (CopyPost l S R M W)))
    (HLe : Hid (∀ W aR cR aM cM, DetAt W ⟨l, S, R, M⟩ aR aM → Calls Try.prog 10 #[detV l S aR R.length cR aM M.length cM] W (LeastGPost δ mk R.length l s0 W)))
    (HAp : Hid (∀ W aR cR aM cM, DetAt W ⟨l, S, R, M⟩ aR aM → Calls Try.prog 11 #[detV l S aR R.length cR aM M.length cM, .int .i64 p, .int .i64 q] W (WordPost2 F W)))
    (HSm : Hid (∀ W aR cR aM cM, w.grownBy W none → DetAt W ⟨l, S, R, M⟩ aR aM → Calls Try.prog 12 #[detV l S aR R.length cR aM M.length cM, detV l S a R.length c a' M.length c'] W (Says (.bool true) W)))
    (HCk : Hid (∀ W, w.grownBy W none → Calls Try.prog 13 #[detV l S a R.length c a' M.length c'] W (Says (.int .i64 0) W)))
    (HNo : Hid (∀ W (L S : Int) aR nR cR aM nM cM, nR ≤ 3000 → nM ≤ 3000 → Calls Try.prog 14 #[detV L S aR nR cR aM nM cM] W (TellsAny W)))
    (HLr : Hid (∀ W, w.grownBy W none → Calls Try.prog 15 #[detV l S a R.length c a' M.length c'] W (LeastPost δ mk R.length l s0 W)))
    (HSl : Hid (∀ W aR cR aM cM aR' cR' aM' cM' (rs rs' : List (Value × List Int)) (M1 M2 : List Int), LeastOf δ mk R.length l s0 (rs.map (·.2)) M1 → LeastOf δ mk R.length l s0 (rs'.map (·.2)) M2 → DetAt W ⟨l, 0, rs.map (·.2), M1⟩ aR aM → DetAt W ⟨l, 0, rs'.map (·.2), M2⟩ aR' aM' → Calls Try.prog 12 #[detV l 0 aR rs.length cR aM M1.length cM, detV l 0 aR' rs'.length cR' aM' M2.length cM'] W (Says (.bool true) W)))
    (HSp : Hid (∀ B W aR cR aM cM (rs : List (Value × List Int)) (M1 : List Int) r, B ≤ W.heap.size → rs.length ≤ 3000 → Owns B W ((23, .slice aR rs.length cR, rs.map (·.1)) :: (3, .slice aM M1.length cM, vals M1) :: (rowItems rs ++ r)) → Calls Try.prog 16 #[detV l 0 aR rs.length cR aM M1.length cM] W (SpoilDPost B r W)))
    (HAr : Hid (∀ W, w.grownBy W none → IsSt p R.length → IsSt q R.length → Calls Try.prog 17 #[detV l S a R.length c a' M.length c', detV l S a R.length c a' M.length c', .int .i64 p, .int .i64 q] W fun e w' => ∃ (zs : List Nat) (is : Bool) (az : Option Addr) (cz : Nat), e = .returned (.tuple #[.slice az zs.length cz, .bool is]) ∧ F' zs is ∧ Ints w' az (natInts zs) ∧ W.grownBy w' none))
    (HWd : Hid (∀ W az cz az' cz' (zs : List Nat) is, F' zs is → Ints W az (natInts zs) → Ints W az' (natInts zs) → Calls Try.prog 18 #[.slice az zs.length cz, .slice az' zs.length cz'] W (Says (.bool true) W)))
    (HF1 : Hid (∀ zs is g, F zs is g → ¬ (IsSt p R.length ∧ IsSt q R.length) → zs = [] ∧ is = false ∧ g = 2))
    (HF2 : Hid (∀ zs is g zs' is', F zs is g → F' zs' is' → IsSt p R.length → IsSt q R.length → zs = zs' ∧ is = is' ∧ g = 0))
    : Calls Try.prog 3 #[detV l S a R.length c a' M.length c', .int .i64 p, .int .i64 q] w (Says (.bool true) w) := by
  obtain ⟨n, hn⟩ : ∃ n, R.length = n := ⟨_, rfl⟩
  obtain ⟨m, hm⟩ : ∃ m, M.length = m := ⟨_, rfl⟩
  unfold CopyPost at HDO
  rw [hn, hm] at HDO HLe HAp HSm HCk HLr HAr ⊢
  rw [hn] at HSl HF1 HF2 hn3
  obtain ⟨W0, hW0, g0, s0', bx0⟩ := box_new w (.int .i64 l) (.int .i64 S) (.slice a n c) (.slice a' m c') 25
  have HW0 : Hid (W0 = _) := hW0
  have G0 : Hid (w.grownBy W0 none) := g0
  have Bd : Hid (∀ W', W0.grownBy W' none → W'.cell? ⟨w.heap.size, 0, none⟩ = some (.int .i64 l) ∧ W'.cell? ⟨w.heap.size, 1, none⟩ = some (.int .i64 S) ∧ W'.cell? ⟨w.heap.size, 2, none⟩ = some (.slice a n c) ∧ W'.cell? ⟨w.heap.size, 3, none⟩ = some (.slice a' m c')) := bx0
  clear hn hm hW0 g0 bx0 s0'
  go_enter Try.func3, Try.ntmps3
  go_wp2_with fail
  rw [← HW0.out]
  refine (HDO.out _ G0.out).mono ?_
  rintro e w1 ⟨aR, cR, aM, cM, rfl, hd1, hg1⟩
  obtain ⟨W1, hW1, g1, s1, bx1⟩ := box_new w1 (.int .i64 l) (.int .i64 S) (.slice aR n cR) (.slice aM m cM) 25
  have HW1 : Hid (W1 = _) := hW1
  have X1 : Hid (DetAt W1 ⟨l, S, R, M⟩ aR aM) := hd1.grown g1
  have G1 : Hid (W0.grownBy W1 none) := grown_trans hg1 g1
  have Bx : Hid (∀ W', W1.grownBy W' none → W'.cell? ⟨w1.heap.size, 0, none⟩ = some (.int .i64 l) ∧ W'.cell? ⟨w1.heap.size, 1, none⟩ = some (.int .i64 S) ∧ W'.cell? ⟨w1.heap.size, 2, none⟩ = some (.slice aR n cR) ∧ W'.cell? ⟨w1.heap.size, 3, none⟩ = some (.slice aM m cM)) := bx1
  clear hd1 hg1 hW1 g1 s1 bx1 HDO
  go_wp2_with fail
  rw [← HW1.out]
  refine (HLe.out _ _ _ _ _ X1.out).mono ?_
  rintro e w2 ⟨v2, rfl, aL, cL, aN, cN, rs, ML, hv2, hlo, hrn, hml, hrl, ho2, hg2⟩
  cases hv2
  have LO : Hid (LeastOf δ mk n l s0 (rs.map (·.2)) ML) := hlo
  have HML : Hid (ML.length = rs.length) := hml
  have HRL : Hid (∀ x, x ∈ rs → x.2.length = l) := hrl
  obtain ⟨nr, hnr⟩ : ∃ nr, rs.length = nr := ⟨_, rfl⟩
  obtain ⟨nl, hnl⟩ : ∃ nl, ML.length = nl := ⟨_, rfl⟩
  have HNr : Hid (rs.length = nr) := hnr
  have HNl : Hid (ML.length = nl) := hnl
  rw [hnr, hnl] at ho2 ⊢
  have hnr3 : nr ≤ 3000 := by omega
  have hnl3 : nl ≤ 3000 := by omega
  obtain ⟨W2, hW2, g2, s2, bx2⟩ := box_new w2 (.int .i64 l) (.int .i64 0) (.slice aL nr cL) (.slice aN nl cN) 25
  have HW2 : Hid (W2 = _) := hW2
  have X2 : Hid (DetAt W2 ⟨l, S, R, M⟩ aR aM) := X1.out.grown (grown_trans hg2 g2)
  have G2 : Hid (W1.grownBy W2 none) := grown_trans hg2 g2
  have O2 : Hid (Owns W1.heap.size W2 ((23, .slice aL nr cL, rs.map (·.1)) :: (3, .slice aN nl cN, vals ML) :: rowItems rs)) := ho2.kept g2
  have Bl : Hid (∀ W', W2.grownBy W' none → W'.cell? ⟨w2.heap.size, 0, none⟩ = some (.int .i64 l) ∧ W'.cell? ⟨w2.heap.size, 1, none⟩ = some (.int .i64 0) ∧ W'.cell? ⟨w2.heap.size, 2, none⟩ = some (.slice aL nr cL) ∧ W'.cell? ⟨w2.heap.size, 3, none⟩ = some (.slice aN nl cN)) := bx2
  obtain ⟨x0, x1, x2, x3⟩ := Bx.out _ G2.out
  rw [hW2] at x0 x1 x2 x3
  clear hg2 hW2 g2 s2 bx2 HLe HW1 hlo hrn hml hrl ho2 hnr hnl
  go_wp2_with fail
  rw [← HW2.out]
  refine (HAp.out _ _ _ _ _ X2.out).mono ?_
  rintro e w3 ⟨zs, is, g, az, cz, rfl, hF, ho3, hg3⟩
  have HF : Hid (F zs is g) := hF
  obtain ⟨nz, hnz⟩ : ∃ nz, zs.length = nz := ⟨_, rfl⟩
  have HNz : Hid (zs.length = nz) := hnz
  rw [hnz] at ho3 ⊢
  have O3 : Hid (Owns W1.heap.size w3 ((23, .slice aL nr cL, rs.map (·.1)) :: (3, .slice aN nl cN, vals ML) :: (rowItems rs ++ [(3, .slice az nz cz, vals (natInts zs))]))) :=
    (O2.out.join hg3 ho3 G2.out.size).perm (List.perm_append_comm (l₁ := [(3, .slice az nz cz, vals (natInts zs))]) (l₂ := (23, .slice aL nr cL, rs.map (·.1)) :: (3, .slice aN nl cN, vals ML) :: rowItems rs))
  have X3 : Hid (DetAt w3 ⟨l, S, R, M⟩ aR aM) := X2.out.grown hg3
  have G3 : Hid (W2.grownBy w3 none) := hg3
  have GW3 : Hid (W0.grownBy w3 none) := grown_trans G1.out (grown_trans G2.out hg3)
  clear x0 x1 x2 x3 HAp X2 HW2 O2 hF ho3 hnz
  obtain ⟨x0, x1, x2, x3⟩ := Bx.out _ (grown_trans G2.out hg3)
  obtain ⟨d0, d1, d2, d3⟩ := Bd.out _ GW3.out
  clear hg3
  go_wp2_with fail
  refine (HSm.out _ _ _ _ _ (grown_trans G0.out GW3.out) X3.out).mono ?_
  rintro e w4 ⟨rfl, hg4⟩
  have G4 : Hid (W2.grownBy w4 none) := grown_trans G3.out hg4
  have GW4 : Hid (W0.grownBy w4 none) := grown_trans GW3.out hg4
  have O4 : Hid (Owns W1.heap.size w4 ((23, .slice aL nr cL, rs.map (·.1)) :: (3, .slice aN nl cN, vals ML) :: (rowItems rs ++ [(3, .slice az nz cz, vals (natInts zs))]))) := O3.out.kept hg4
  clear x0 x1 x2 x3 d0 d1 d2 d3 X3 hg4 G3 GW3 O3
  obtain ⟨d0, d1, d2, d3⟩ := Bd.out _ GW4.out
  go_wp2_with fail
  refine (HCk.out _ (grown_trans G0.out GW4.out)).mono ?_
  rintro e w5 ⟨rfl, hg5⟩
  have G5 : Hid (W2.grownBy w5 none) := grown_trans G4.out hg5
  have GW5 : Hid (W0.grownBy w5 none) := grown_trans GW4.out hg5
  have O5 : Hid (Owns W1.heap.size w5 ((23, .slice aL nr cL, rs.map (·.1)) :: (3, .slice aN nl cN, vals ML) :: (rowItems rs ++ [(3, .slice az nz cz, vals (natInts zs))]))) := O4.out.kept hg5
  clear d0 d1 d2 d3 HCk hg5 G4 GW4 O4
  obtain ⟨l0, l1, l2, l3⟩ := Bl.out _ G5.out
  go_wp2_with fail
  refine (HNo.out _ _ _ _ _ _ _ _ _ hnr3 hnl3).mono ?_
  rintro e w6 ⟨bn, rfl, hg6⟩
  have G6 : Hid (W2.grownBy w6 none) := grown_trans G5.out hg6
  have GW6 : Hid (W0.grownBy w6 none) := grown_trans GW5.out hg6
  have O6 : Hid (Owns W1.heap.size w6 ((23, .slice aL nr cL, rs.map (·.1)) :: (3, .slice aN nl cN, vals ML) :: (rowItems rs ++ [(3, .slice az nz cz, vals (natInts zs))]))) := O5.out.kept hg6
  clear l0 l1 l2 l3 HNo hg6 G5 GW5 O5
  obtain ⟨d0, d1, d2, d3⟩ := Bd.out _ GW6.out
  go_wp2_with fail
  refine (HLr.out _ (grown_trans G0.out GW6.out)).mono ?_
  rintro e w7 ⟨aE, cE, aF, cF, rs7, M7, hv7, hlo7, hrn7, hml7, hrl7, ho7, hg7⟩
  subst hv7
  have LO7 : Hid (LeastOf δ mk n l s0 (rs7.map (·.2)) M7) := hlo7
  obtain ⟨W7, hW7, g7, s7, bx7⟩ := box_new w7 (.int .i64 l) (.int .i64 0) (.slice aE rs7.length cE) (.slice aF M7.length cF) 25
  have HW7 : Hid (W7 = _) := hW7
  have G7 : Hid (W2.grownBy W7 none) := grown_trans G6.out (grown_trans hg7 g7)
  have GW7 : Hid (W0.grownBy W7 none) := grown_trans GW6.out (grown_trans hg7 g7)
  have O7 : Hid (Owns W1.heap.size W7 ((23, .slice aL nr cL, rs.map (·.1)) :: (3, .slice aN nl cN, vals ML) :: (rowItems rs ++ [(3, .slice az nz cz, vals (natInts zs))]))) := O6.out.kept (grown_trans hg7 g7)
  have D7 : Hid (DetAt W7 ⟨l, 0, rs7.map (·.2), M7⟩ aE aF) := by
    have h1 := det_of_owns (L := l) (S := 0) (its := []) (by rw [List.append_nil]; exact ho7) (fun x hx => by rw [hrl7 x hx]; unfold maxLen; omega) (by unfold maxLen; omega) (by unfold maxLen; omega)
    exact h1.grown g7
  have E7 : Hid (DetAt W7 ⟨l, 0, rs.map (·.2), ML⟩ aL aN) := by
    have h1 := O7.out
    rw [← HNr.out, ← HNl.out] at h1
    exact det_of_owns (L := l) (S := 0) h1 (fun x hx => by rw [HRL.out x hx]; unfold maxLen; omega) (by rw [HNr.out]; unfold maxLen; omega) (by rw [HNl.out]; unfold maxLen; omega)
  obtain ⟨l0, l1, l2, l3⟩ := Bl.out _ G7.out
  rw [hW7] at l0 l1 l2 l3
  have HSl7 : Hid (Calls Try.prog 12 #[detV l 0 aL nr cL aN nl cN, detV l 0 aE rs7.length cE aF M7.length cF] W7 (Says (.bool true) W7)) := by
    have h1 := HSl.out W7 aL cL aN cN aE cE aF cF rs rs7 ML M7 LO.out LO7.out E7.out D7.out
    rw [HNr.out, HNl.out] at h1
    exact h1
  clear hlo7 hrn7 hml7 hrl7 ho7 hg7 hW7 g7 s7 bx7 d0 d1 d2 d3 G6 GW6 O6 HLr HSl LO LO7 D7 E7
  generalize rs7.length = nr7 at *
  generalize M7.length = nl7 at *
  go_wp2_with fail
  rw [← HW7.out]
  refine HSl7.out.mono ?_
  rintro e w8 ⟨rfl, hg8⟩
  have G8 : Hid (W2.grownBy w8 none) := grown_trans G7.out hg8
  have O8 : Hid (Owns W1.heap.size w8 ((23, .slice aL nr cL, rs.map (·.1)) :: (3, .slice aN nl cN, vals ML) :: (rowItems rs ++ [(3, .slice az nz cz, vals (natInts zs))]))) := O7.out.kept hg8
  clear l0 l1 l2 l3 HSl7 hg8 G7 GW7 O7 HW7
  obtain ⟨l0, l1, l2, l3⟩ := Bl.out _ G8.out
  have HSp8 : Hid (Calls Try.prog 16 #[detV l 0 aL nr cL aN nl cN] w8 (SpoilDPost W1.heap.size [(3, .slice az nz cz, vals (natInts zs))] w8)) := by
    have h1 := HSp.out W1.heap.size w8 aL cL aN cN rs ML [(3, .slice az nz cz, vals (natInts zs))] (grown_trans G2.out G8.out).size (by rw [HNr.out]; exact hnr3) (by rw [HNr.out, HNl.out]; exact O8.out)
    rw [HNr.out, HNl.out] at h1
    exact h1
  clear O8 HSp
  go_wp2_with fail
  refine HSp8.out.mono ?_
  rintro e w9 ⟨rfl, ho9, hk9⟩
  have G9 : Hid (W1.grownBy w9 none) := hk9 W1 (Nat.le_refl _) (grown_trans G2.out G8.out)
  have GW9 : Hid (W0.grownBy w9 none) := grown_trans G1.out G9.out
  have Z9 : Hid (Ints w9 az (natInts zs)) := ho9.ints.2
  have X9 : Hid (DetAt w9 ⟨l, S, R, M⟩ aR aM) := X1.out.grown G9.out
  clear l0 l1 l2 l3 HSp8 ho9 hk9 G8 Bl G2 X1
  obtain ⟨x0, x1, x2, x3⟩ := Bx.out _ G9.out
  obtain ⟨d0, d1, d2, d3⟩ := Bd.out _ GW9.out
  go_wp2_with fail
  refine (HSm.out _ _ _ _ _ (grown_trans G0.out GW9.out) X9.out).mono ?_
  rintro e w10 ⟨rfl, hg10⟩
  have GW10 : Hid (W0.grownBy w10 none) := grown_trans GW9.out hg10
  have Z10 : Hid (Ints w10 az (natInts zs)) := Z9.out.grown hg10
  clear x0 x1 x2 x3 d0 d1 d2 d3 HSm X9 hg10 G9 GW9 Bx Z9
  obtain ⟨d0, d1, d2, d3⟩ := Bd.out _ GW10.out
  by_cases hst : IsSt p n ∧ IsSt q n
  · obtain ⟨⟨hp0, hpn⟩, ⟨hq0, hqn⟩⟩ := hst
    have b1 : ¬ p < 0 := by omega
    have b2 : ¬ q < 0 := by omega
    have b3 : ¬ (n : Int) ≤ p := by omega
    have b4 : ¬ (n : Int) ≤ q := by omega
    go_wp2_with fail
    refine (HAr.out _ (grown_trans G0.out GW10.out) ⟨hp0, hpn⟩ ⟨hq0, hqn⟩).mono ?_
    rintro e w11 ⟨zs', is', az', cz', rfl, hF', hz', hg11⟩
    obtain ⟨rfl, rfl, rfl⟩ := HF2.out _ _ _ _ _ HF.out hF' ⟨hp0, hpn⟩ ⟨hq0, hqn⟩
    have GW11 : Hid (w.grownBy w11 none) := grown_trans G0.out (grown_trans GW10.out hg11)
    have HW11 : Hid (Calls Try.prog 18 #[.slice az nz cz, .slice az' nz cz'] w11 (Says (.bool true) w11)) := by
      have h1 := HWd.out w11 az cz az' cz' zs is hF' (Z10.out.grown hg11) hz'
      rw [HNz.out] at h1
      exact h1
    rw [HNz.out]
    clear hF' hz' hg11 d0 d1 d2 d3 HAr HWd HF1 HF2 Z10 GW10 HF
    go_wp2_with fail
    refine HW11.out.mono ?_
    rintro e w12 ⟨rfl, hg12⟩
    have GW12 : Hid (w.grownBy w12 none) := grown_trans GW11.out hg12
    clear hg12 GW11 HW11
    cases is with
    | true =>
      go_wp2_with fail
      go_ret
      exact ⟨rfl, GW12.out⟩
    | false =>
      go_wp2_with fail
      go_ret
      exact ⟨rfl, GW12.out⟩
  · obtain ⟨rfl, rfl, rfl⟩ := HF1.out _ _ _ HF.out hst
    have hz0 : nz = 0 := by rw [← HNz.out]; rfl
    subst hz0
    have FIN : Hid (w.grownBy w10 none) := grown_trans G0.out GW10.out
    clear HF1 HF2 HAr HWd Z10 HF
    by_cases b1 : p < 0
    · go_wp2_with fail
      go_ret
      exact ⟨rfl, FIN.out⟩
    · by_cases b2 : q < 0
      · go_wp2_with fail
        go_ret
        exact ⟨rfl, FIN.out⟩
      · by_cases b3 : (n : Int) ≤ p
        · go_wp2_with fail
          go_ret
          exact ⟨rfl, FIN.out⟩
        · have b4 : (n : Int) ≤ q := by
            rcases Int.lt_or_le q n with h1 | h1
            · exact absurd ⟨⟨by omega, by omega⟩, ⟨by omega, h1⟩⟩ hst
            · exact h1
          go_wp2_with fail
          go_ret
          exact ⟨rfl, FIN.out⟩

end Go.Proofs.Ytofjboelplknhaa
