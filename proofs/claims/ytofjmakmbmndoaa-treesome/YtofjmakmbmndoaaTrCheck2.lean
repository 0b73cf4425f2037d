/- What is wrong with an automaton of trees: the program's Check, put together. -/
import Derived.Test.YtofjmakmbmndoaaTrCheck
import Derived.Test.YtofjmakmbmndoaaTrRise
namespace Go.Proofs.Ytofjmakmbmndoaa
open Go.RowKit
set_option linter.unusedVariables false

set_option maxHeartbeats 1600000 in
set_option maxRecDepth 100000 in
theorem marksWithin_any (L N S : Int) (b e : Option Addr) (r d f : Nat) (M : List Int) (w : World) (h : Ints w e M) (hm : M.length ≤ maxLen) :
    Calls Try.prog 18 #[trsV L N b r d S e M.length f] w (TellsB (InMk M) w) := by
  unfold maxLen at hm
  have HZ : Hid (Ints w e M) := h
  obtain ⟨W1, hW1, g1, s1, bx1⟩ := box5_new w (.int .i64 L) (.int .i64 N) (.slice b r d) (.int .i64 S) (.slice e M.length f) 25
  have HW1 : Hid (W1 = _) := hW1
  have G1 : Hid (w.grownBy W1 none) := g1
  clear h hW1 g1 s1 bx1
  go_enter Try.func18, Try.ntmps18
  go_wp2_with fail
  rw [← HW1.out]
  go_loop [8] (fun v => ∃ k : Nat, k ≤ M.length ∧ v = .int .i64 k ∧ ∀ j, j < k → M.getD j 0 = 0 ∨ M.getD j 0 = 1) (fun v => M.length - (intOf v).toNat)
  case atStart => exact ⟨0, Nat.zero_le _, rfl, fun j hj => by omega⟩
  case round =>
    obtain ⟨k, hk, rfl, hg⟩ := hrel
    have HJ : Hid (∀ j, j < k → M.getD j 0 = 0 ∨ M.getD j 0 = 1) := hg
    clear hg
    by_cases hlt : k < M.length
    · obtain ⟨bb, off, rfl, hc⟩ := (HZ.out.grown G1.out).at hlt
      have hki : (k : Int) < (M.length : Int) := by omega
      have hck := hc k hlt
      clear hc
      obtain ⟨x, hx⟩ : ∃ x, M.getD k 0 = x := ⟨_, rfl⟩
      rw [hx] at hck
      have HX : Hid (M.getD k 0 = x) := hx
      clear hx
      have HT : Hid ((x = 0 ∨ x = 1) → ∀ j, j < k + 1 → M.getD j 0 = 0 ∨ M.getD j 0 = 1) := fun hh j hj => by
        by_cases hjk : j = k
        · subst hjk; rw [HX.out]; exact hh
        · exact HJ.out j (by omega)
      have HF : Hid (¬ (x = 0 ∨ x = 1) → ¬ InMk M) := fun hh e => hh (by have := e k hlt; rwa [HX.out] at this)
      by_cases e0 : x = 0
      · have e1 : (x != 0) = false := by simpa using e0
        have HT2 : Hid _ := HT.out (.inl e0)
        clear HT HF e0
        go_wp2_with fail
        go_round
        case rel => exact ⟨k + 1, by omega, by go_num, HT2.out⟩
        case measure => simp [intOf]; omega
      · have e1 : (x != 0) = true := by simpa using e0
        by_cases e2 : x = 1
        · have e3 : (x != 1) = false := by simpa using e2
          have HT2 : Hid _ := HT.out (.inr e2)
          clear HT HF e0 e2
          go_wp2_with fail
          go_round
          case rel => exact ⟨k + 1, by omega, by go_num, HT2.out⟩
          case measure => simp [intOf]; omega
        · have e3 : (x != 1) = true := by simpa using e2
          have HF2 : Hid (¬ InMk M) := HF.out (by omega)
          clear HT HF e0 e2
          go_wp2_with fail
          go_ret
          exact tellsB false rfl ⟨(fun e => by cases e), fun e => absurd e HF2.out⟩ G1.out
    · have hki : ¬ (k : Int) < (M.length : Int) := by omega
      go_wp2_with fail
      go_ret
      exact tellsB true rfl ⟨fun _ => fun i hi => HJ.out i (by omega), fun _ => rfl⟩ G1.out

set_option maxHeartbeats 3200000 in
set_option maxRecDepth 100000 in
theorem checkT_any (x : Trs) (b e : Option Addr) (d f : Nat) (w : World) (h : TrsAt w x b e) :
    Calls Try.prog 6 #[trsV x.L x.N b x.R.length d x.S e x.M.length f] w (Says (.int .i64 (checkT x)) w) := by
  have HL1 : Hid (∀ W, Calls Try.prog 16 #[.int .i64 x.L] W fun e w' => e = .returned (.bool (letB x.L)) ∧ w' = W) := fun W => isLetters_any _ _
  have HR1 : Hid (∀ W, w.grownBy W none → Calls Try.prog 17 #[trsV x.L x.N b x.R.length d x.S e x.M.length f] W (TellsB (InRu x.R x.L x.N) W)) := fun W hW => rulesWithin_any _ _ _ _ _ _ _ _ _ _ (h.grown hW).rules h.mr
  have HM1 : Hid (∀ W, w.grownBy W none → Calls Try.prog 18 #[trsV x.L x.N b x.R.length d x.S e x.M.length f] W (TellsB (InMk x.M) W)) := fun W hW => marksWithin_any _ _ _ _ _ _ _ _ _ _ (h.grown hW).marks h.mm
  have HI1 : Hid (∀ W, w.grownBy W none → Calls Try.prog 19 #[.slice b x.R.length d] W (TellsB (RiseR x.R) W)) := fun W hW => riseT_any _ _ _ _ (h.grown hW).rules h.mr
  have hmr := h.mr
  have hmm := h.mm
  unfold maxLen at hmr hmm
  obtain ⟨W1, hW1, g1, s1, bx1⟩ := box5_new w (.int .i64 x.L) (.int .i64 x.N) (.slice b x.R.length d) (.int .i64 x.S) (.slice e x.M.length f) 25
  have HW1 : Hid (W1 = _) := hW1
  have G1 : Hid (w.grownBy W1 none) := g1
  have KK : Hid (∀ W', W1.grownBy W' none → W'.cell? ⟨w.heap.size, 0, none⟩ = some (.int .i64 x.L) ∧ W'.cell? ⟨w.heap.size, 1, none⟩ = some (.int .i64 x.N) ∧ W'.cell? ⟨w.heap.size, 2, none⟩ = some (.slice b x.R.length d) ∧ W'.cell? ⟨w.heap.size, 3, none⟩ = some (.int .i64 x.S) ∧ W'.cell? ⟨w.heap.size, 4, none⟩ = some (.slice e x.M.length f)) := bx1
  obtain ⟨z, hz⟩ : ∃ z, checkT x = z := ⟨_, rfl⟩
  rw [hz]
  have HZ : Hid (checkT x = z) := hz
  clear h hW1 g1 s1 bx1 hz
  obtain ⟨x0, x1, x2, x3, x4⟩ := KK.out W1 (grown_refl _ _)
  have HA : Hid (x.L < 1 ∨ 4 < x.L → z = 2) := fun h => by rw [← HZ.out]; exact checkT_range h
  have HB : Hid (¬ (x.L < 1 ∨ 4 < x.L) → x.N < 1 ∨ 300 < x.N ∨ 40000 < x.R.length ∨ (x.M.length : Int) ≠ x.N → z = 1) := fun h h2 => by rw [← HZ.out]; exact checkT_size h h2
  have HS : Hid (¬ (x.L < 1 ∨ 4 < x.L) → ¬ (x.N < 1 ∨ 300 < x.N ∨ 40000 < x.R.length ∨ (x.M.length : Int) ≠ x.N) → ShpT x) := fun h h2 => shpT h h2
  have HC1 : Hid (ShpT x → ¬ InRu x.R x.L x.N → z = 2) := fun h h2 => by rw [← HZ.out]; exact checkT_ru h h2
  have HC2 : Hid (ShpT x → ¬ InMk x.M → z = 2) := fun h h2 => by rw [← HZ.out]; exact checkT_mk h h2
  have HC3 : Hid (ShpT x → InRu x.R x.L x.N → InMk x.M → ¬ RiseR x.R → z = 3) := fun h h1 h2 h3 => by rw [← HZ.out]; exact checkT_ri h h1 h2 h3
  have HC4 : Hid (ShpT x → InRu x.R x.L x.N → InMk x.M → x.S ≠ 0 → z = 3) := fun h h1 h2 h3 => by rw [← HZ.out]; exact checkT_st h h1 h2 h3
  have HC5 : Hid (ShpT x → InRu x.R x.L x.N → InMk x.M → RiseR x.R → x.S = 0 → z = 0) := fun h h1 h2 h3 h4 => by rw [← HZ.out]; exact checkT_ok h h1 h2 h3 h4
  have HSx : Hid (letB x.L = true ↔ ¬ (x.L < 1 ∨ 4 < x.L)) := by
    show _ ↔ _
    simp [letB]
  obtain ⟨P1, hP1⟩ : ∃ P, P = ShpT x := ⟨_, rfl⟩
  rw [← hP1] at HS HC1 HC2 HC3 HC4 HC5
  obtain ⟨L, N, R, S, M⟩ := x
  simp only at *
  generalize R.length = nR at *
  generalize M.length = nM at *
  generalize letB L = lb at *
  generalize InRu R L N = PR at *
  generalize InMk M = PM at *
  generalize RiseR R = PI at *
  clear HZ hP1
  rw [HW1.out] at x0 x1 x2 x3 x4
  cases lb with
  | false =>
    have Hz : Hid (z = 2) := HA.out (Classical.byContradiction fun hh => by have := HSx.out.2 hh; cases this)
    have GF := G1.out
    clear HA HB HS HC1 HC2 HC3 HC4 HC5 HR1 HM1 HI1
    go_enter Try.func6, Try.ntmps6
    go_wp2_with fail
    refine (HL1.out _).mono ?_
    rintro E w2 ⟨rfl, rfl⟩
    go_wp2_with fail
    rw [← HW1.out]
    go_ret
    exact ⟨ret_int Hz.out.symm, GF⟩
  | true =>
  have HNc1 : Hid (¬ (L < 1 ∨ 4 < L)) := HSx.out.1 rfl
  clear HA HSx
  go_enter Try.func6, Try.ntmps6
  go_wp2_with fail
  refine (HL1.out _).mono ?_
  rintro E w2 ⟨rfl, rfl⟩
  by_cases c1 : N < 1
  · have Hz : Hid (z = 1) := HB.out HNc1.out (.inl c1)
    clear HB HS HC1 HC2 HC3 HC4 HC5 HR1 HM1 HI1
    have d1 : decide (N < 1) = true := by simpa using c1
    go_wp2_with fail
    rw [← HW1.out]
    go_ret
    exact ⟨ret_int Hz.out.symm, G1.out⟩
  have d1 : decide (N < 1) = false := by simpa using c1
  by_cases c2 : 300 < N
  · have Hz : Hid (z = 1) := HB.out HNc1.out (.inr (.inl c2))
    clear HB HS HC1 HC2 HC3 HC4 HC5 HR1 HM1 HI1
    have d2 : decide (300 < N) = true := by simpa using c2
    go_wp2_with fail
    rw [← HW1.out]
    go_ret
    exact ⟨ret_int Hz.out.symm, G1.out⟩
  have d2 : decide (300 < N) = false := by simpa using c2
  by_cases c3 : 40000 < nR
  · have Hz : Hid (z = 1) := HB.out HNc1.out (.inr (.inr (.inl c3)))
    clear HB HS HC1 HC2 HC3 HC4 HC5 HR1 HM1 HI1
    have d3 : decide ((40000 : Int) < (nR : Int)) = true := by simp; omega
    go_wp2_with fail
    rw [← HW1.out]
    go_ret
    exact ⟨ret_int Hz.out.symm, G1.out⟩
  have d3 : decide ((40000 : Int) < (nR : Int)) = false := by simp; omega
  by_cases c4 : (nM : Int) = N
  case neg =>
    have Hz : Hid (z = 1) := HB.out HNc1.out (.inr (.inr (.inr c4)))
    clear HB HS HC1 HC2 HC3 HC4 HC5 HR1 HM1 HI1
    have d4 : ((nM : Int) != N) = true := by simpa using c4
    go_wp2_with fail
    rw [← HW1.out]
    go_ret
    exact ⟨ret_int Hz.out.symm, G1.out⟩
  have d4 : ((nM : Int) != N) = false := by simpa using c4
  have SH : Hid P1 := HS.out HNc1.out (by omega)
  clear HB HS c4
  go_wp2_with fail
  rw [← HW1.out]
  refine (HR1.out _ G1.out).mono ?_
  rintro E w2 ⟨b2, rfl, hb2, hg2⟩
  have G2 : Hid (W1.grownBy w2 none) := hg2
  obtain ⟨y0, y1, y2, y3, y4⟩ := KK.out w2 hg2
  clear hg2 x0 x1 x2 x3 x4
  cases b2 with
  | false =>
    have Hz : Hid (z = 2) := HC1.out SH.out (fun e => by have := hb2.2 e; cases this)
    have GF := grown_trans G1.out G2.out
    clear hb2
    go_wp2_with fail
    go_ret
    exact ⟨ret_int Hz.out.symm, GF⟩
  | true =>
  have HP2 : Hid PR := hb2.1 rfl
  clear hb2 HC1
  go_wp2_with fail
  refine (HM1.out _ (grown_trans G1.out G2.out)).mono ?_
  rintro E w3 ⟨b3, rfl, hb3, hg3⟩
  have G3 : Hid (W1.grownBy w3 none) := grown_trans G2.out hg3
  obtain ⟨x0, x1, x2, x3, x4⟩ := KK.out w3 G3.out
  clear hg3 y0 y1 y2 y3 y4
  cases b3 with
  | false =>
    have Hz : Hid (z = 2) := HC2.out SH.out (fun e => by have := hb3.2 e; cases this)
    have GF := grown_trans G1.out G3.out
    clear hb3
    go_wp2_with fail
    go_ret
    exact ⟨ret_int Hz.out.symm, GF⟩
  | true =>
  have HP3 : Hid PM := hb3.1 rfl
  clear hb3 HC2
  go_wp2_with fail
  refine (HI1.out _ (grown_trans G1.out G3.out)).mono ?_
  rintro E w4 ⟨b4, rfl, hb4, hg4⟩
  have G4 : Hid (W1.grownBy w4 none) := grown_trans G3.out hg4
  obtain ⟨y0, y1, y2, y3, y4⟩ := KK.out w4 G4.out
  clear hg4 x0 x1 x2 x3 x4
  cases b4 with
  | false =>
    have Hz : Hid (z = 3) := HC3.out SH.out HP2.out HP3.out (fun e => by have := hb4.2 e; cases this)
    have GF := grown_trans G1.out G4.out
    clear hb4
    go_wp2_with fail
    go_ret
    exact ⟨ret_int Hz.out.symm, GF⟩
  | true =>
  have HP4 : Hid PI := hb4.1 rfl
  clear hb4 HC3
  by_cases c5 : S = 0
  · have Hz : Hid (z = 0) := HC5.out SH.out HP2.out HP3.out HP4.out c5
    have GF := grown_trans G1.out G4.out
    have d5 : (S != 0) = false := by simpa using c5
    clear c5
    go_wp2_with fail
    go_ret
    exact ⟨ret_int Hz.out.symm, GF⟩
  · have Hz : Hid (z = 3) := HC4.out SH.out HP2.out HP3.out c5
    have GF := grown_trans G1.out G4.out
    have d5 : (S != 0) = true := by simpa using c5
    clear c5
    go_wp2_with fail
    go_ret
    exact ⟨ret_int Hz.out.symm, GF⟩

end Go.Proofs.Ytofjmakmbmndoaa
