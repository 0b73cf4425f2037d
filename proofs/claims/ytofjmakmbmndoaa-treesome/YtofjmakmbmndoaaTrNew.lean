/- The seeds of all states: the program's nodes and newSeeds. -/
import Derived.Test.YtofjmakmbmndoaaTrSeed
namespace Go.Proofs.Ytofjmakmbmndoaa
open Go.RowKit
set_option linter.unusedVariables false

set_option maxHeartbeats 1600000 in
set_option maxRecDepth 100000 in
theorem nodes_any (g n : Nat) (F : Nat → Nat) (ρ : Nat → RuleI) (r : RuleI) (w : World) (h : SRow w g n F ρ) (hF : ∀ p, F p ≤ 62) (hn : n ≤ 1000) (h1 : -1 ≤ r.2.1) (h2 : -1 ≤ r.2.2.1) (p1 : plc r.2.1 < n) (p2 : plc r.2.2.1 < n) :
    Calls Try.prog 39 #[.slice (some ⟨g, 0, none⟩) n n, ruleV r] w (Says (.int .i64 ((ndsF F r : Nat) : Int)) w) := by
  obtain ⟨a0, a1, a2, a3⟩ := r
  simp only [ruleV] at *
  obtain ⟨p, hp⟩ : ∃ p, plc a1 = p := ⟨_, rfl⟩
  obtain ⟨q, hq⟩ : ∃ q, plc a2 = q := ⟨_, rfl⟩
  have HPp : Hid (∀ W, Calls Try.prog 28 #[.int .i64 a1] W fun e w' => e = .returned (.int .i64 (p : Int)) ∧ w' = W) := place_any a1 p (by unfold plc at hp; omega) (by omega)
  have HPq : Hid (∀ W, Calls Try.prog 28 #[.int .i64 a2] W fun e w' => e = .returned (.int .i64 (q : Int)) ∧ w' = W) := place_any a2 q (by unfold plc at hq; omega) (by omega)
  rw [hp] at p1
  rw [hq] at p2
  have HND : Hid (ndsF F (a0, a1, a2, a3) = if F p = 62 ∨ F q = 62 then 62 else min (1 + F p + F q) 61) := by
    show _ = _
    unfold ndsF
    simp only [hp, hq]
  obtain ⟨W1, hW1⟩ : ∃ W1, W1 = w.alloc (.cells #[.int .i64 a0, .int .i64 a1, .int .i64 a2, .int .i64 a3] 46) := ⟨_, rfl⟩
  have hb := heap_alloc_new w (.cells #[.int .i64 a0, .int .i64 a1, .int .i64 a2, .int .i64 a3] 46)
  rw [← hW1] at hb
  have HW1 : Hid (W1 = _) := hW1
  have g1 : w.grownBy W1 none := by rw [hW1]; exact grown_alloc _ _
  have G1 : Hid (w.grownBy W1 none) := g1
  have u1 : W1.cell? ⟨w.heap.size, 1, none⟩ = some (.int .i64 a1) := by rw [cell_of_row _ _ 1 _ _ (0, 0) hb]; rfl
  have u2 : W1.cell? ⟨w.heap.size, 2, none⟩ = some (.int .i64 a2) := by rw [cell_of_row _ _ 2 _ _ (0, 0) hb]; rfl
  have c1 := (h.kept g1).cell p1
  have c2 := (h.kept g1).cell p2
  have i1 : (p : Int) < (n : Int) := by omega
  have i2 : (q : Int) < (n : Int) := by omega
  have fp := hF p
  have fq := hF q
  obtain ⟨z, hz⟩ : ∃ z, ndsF F (a0, a1, a2, a3) = z := ⟨_, rfl⟩
  rw [hz] at HND ⊢
  generalize F p = x at *
  generalize F q = y at *
  have ex : ((x : Int) == 62) = decide (x = 62) := by
    by_cases e : x = 62
    · subst e; rfl
    · rw [decide_eq_false e, beq_eq_false_iff_ne]; omega
  have ey : ((y : Int) == 62) = decide (y = 62) := by
    by_cases e : y = 62
    · subst e; rfl
    · rw [decide_eq_false e, beq_eq_false_iff_ne]; omega
  clear h hW1 hb g1 hz hp hq hF
  go_enter Try.func39, Try.ntmps39
  go_wp2_with fail
  rw [← HW1.out]
  go_quiet (first | (go_at_call_of 28 (Value.int .i64 a1); refine Calls.quiet_of_same (HPp.out _)) | (go_at_call_of 28 (Value.int .i64 a2); refine Calls.quiet_of_same (HPq.out _)))
  by_cases e1 : x = 62
  · rw [decide_eq_true e1] at ex
    have Hz : Hid (z = 62) := by show _ = _; rw [HND.out, if_pos (.inl e1)]
    clear e1
    go_wp2_with fail
    go_ret
    exact ⟨by rw [Hz.out]; rfl, by first | exact G1.out | exact grown_drewN G1.out _ | exact grown_drew G1.out⟩
  rw [decide_eq_false e1] at ex
  by_cases e2 : y = 62
  · rw [decide_eq_true e2] at ey
    have Hz : Hid (z = 62) := by show _ = _; rw [HND.out, if_pos (.inr e2)]
    clear e1 e2
    go_wp2_with fail
    go_ret
    exact ⟨by rw [Hz.out]; rfl, by first | exact G1.out | exact grown_drewN G1.out _ | exact grown_drew G1.out⟩
  rw [decide_eq_false e2] at ey
  have Hz : Hid (z = min (1 + x + y) 61) := by show _ = _; rw [HND.out, if_neg (by omega)]
  have w1 : IntKind.i64.wrap (1 + (x : Int)) = ((1 + x : Nat) : Int) := by rw [IntKind.wrap_i64]; omega
  have w2 : IntKind.i64.wrap (((1 + x : Nat) : Int) + (y : Int)) = ((1 + x + y : Nat) : Int) := by rw [IntKind.wrap_i64]; omega
  clear e1 e2
  go_wp2_with fail
  all_goals
    go_ret
    exact ⟨ret_int (by rw [Hz.out]; omega), by first | exact G1.out | exact grown_drewN G1.out _ | exact grown_drew G1.out⟩

def sumF (F : Nat → Nat) : Nat → Nat
  | 0 => 0
  | n + 1 => sumF F n + F n
theorem sumF_far {F : Nat → Nat} {p v n : Nat} (hp : n ≤ p) : sumF (updF F p v) n = sumF F n := by
  induction n with
  | zero => rfl
  | succ n ih =>
    rw [sumF, sumF, ih (by omega)]
    have : updF F p v n = F n := by unfold updF; rw [if_neg (by omega)]
    rw [this]
theorem sumF_upd {F : Nat → Nat} {p v n : Nat} (hp : p < n) (hv : v < F p) : sumF (updF F p v) n < sumF F n := by
  induction n with
  | zero => omega
  | succ n ih =>
    rw [sumF, sumF]
    by_cases e : p = n
    · subst e
      rw [sumF_far (Nat.le_refl _)]
      have : updF F p v p = v := by unfold updF; rw [if_pos rfl]
      omega
    · have := ih (by omega)
      have h2 : updF F p v n = F n := by unfold updF; rw [if_neg (by omega)]
      omega
/-- The numbers of all seeds, added up. -/
def sumW (w : World) (g : Nat) : Nat → Nat
  | 0 => 0
  | n + 1 => sumW w g n + (intOf ((w.cell? ⟨g, n * 5, none⟩).getD (.int .i64 0))).toNat
theorem SRow.sum {W : World} {g n : Nat} {F : Nat → Nat} {ρ : Nat → RuleI} (h : SRow W g n F ρ) : sumW W g n = sumF F n := by
  have key : ∀ k, k ≤ n → sumW W g k = sumF F k := by
    intro k
    induction k with
    | zero => intro _; rfl
    | succ k ih =>
      intro hk
      rw [sumW, sumF, ih (by omega), h.cell (by omega)]
      simp [intOf]
  exact key n (Nat.le_refl _)
def bitV (v : Value) : Nat := match v with
  | .bool true => 1
  | _ => 0
def bitB (b : Bool) : Nat := if b = true then 1 else 0
theorem bitV_bool (b : Bool) : bitV (.bool b) = bitB b := by cases b <;> rfl

def iniF (k : Nat) : Nat → Nat := fun i => if i < k then 62 else 0
def begF : Nat → Nat := fun i => if i = 0 then 0 else 62
theorem ini_step (k i : Nat) : updF (iniF k) k 62 i = iniF (k + 1) i := by
  unfold updF iniF
  by_cases e1 : i = k
  · rw [if_pos e1, if_pos (by omega)]
  · rw [if_neg e1]
    by_cases e2 : i < k
    · rw [if_pos e2, if_pos (by omega)]
    · rw [if_neg e2, if_neg (by omega)]
theorem beg_eq {k i : Nat} (hi : i < k) : updF (iniF k) 0 0 i = begF i := by
  unfold updF iniF begF
  by_cases e1 : i = 0
  · rw [if_pos e1, if_pos e1]
  · rw [if_neg e1, if_neg e1, if_pos hi]

/-- While the rules are looked at once more. -/
structure NewI (W2 wq : World) (g n : Nat) (R : List RuleI) (s0 j : Nat) (sm : Bool) (F : Nat → Nat) (ρ : Nat → RuleI) : Prop where
  row : SRow wq g n F ρ
  inv : SeedI R F ρ
  fix : sm = false → ∀ i, i < j → F (plc (R.getD i ru0).2.2.2) ≤ ndsF F (R.getD i ru0)
  sum : sumF F n + bitB sm ≤ s0
  gr : W2.grownBy wq (some g)
theorem NewI.drew {W2 wq : World} {g n : Nat} {R : List RuleI} {s0 j : Nat} {sm : Bool} {F : Nat → Nat} {ρ : Nat → RuleI} (h : NewI W2 wq g n R s0 j sm F ρ) : NewI W2 wq.drew g n R s0 j sm F ρ := ⟨h.row.block rfl, h.inv, h.fix, h.sum, grown_drew h.gr⟩
theorem grown_set2 {a b : World} {g : Nat} (h : a.grownBy b (some g)) (o : Nat) (v : Value) : a.grownBy (b.setCell ⟨g, o, none⟩ v) (some g) := grown_trans h (grown_set b ⟨g, o, none⟩ v)
/-- The seeds are found. -/
def NewPost (R : List RuleI) (n : Nat) (w : World) (E : Ending) (w' : World) : Prop :=
  ∃ g F ρ, E = .returned (.slice (some ⟨g, 0, none⟩) n n) ∧ SRow w' g n F ρ ∧ SeedI R F ρ ∧ Fixed R F ∧ w.grownBy w' none ∧ w.heap.size ≤ g

set_option maxHeartbeats 6400000 in
set_option maxRecDepth 100000 in
theorem newSeeds_any (L S0 : Int) (nN nR d nM f : Nat) (b e : Option Addr) (R : List RuleI) (w : World) (h : RulesAt w b R) (hR : InRu R L nN) (hnR : R.length = nR) (hr4 : nR ≤ 100000000) (hN : nN ≤ 300) :
    Calls Try.prog 30 #[trsV L nN b nR d S0 e nM f] w (NewPost R (nN + 1) w) := by
  have HR : Hid (∀ W, w.grownBy W none → RulesAt W b R) := fun W hW => h.grown hW
  have HRu : Hid (InRu R L nN) := hR
  have HnR : Hid (R.length = nR) := hnR
  have HPl : Hid (∀ (s : Int) (p : Nat), s + 1 = p → p ≤ 1000000 → ∀ W, Calls Try.prog 28 #[.int .i64 s] W fun e w' => e = .returned (.int .i64 (p : Int)) ∧ w' = W) := fun s p h1 h2 W => place_any s p h1 h2 W
  obtain ⟨nP, hnP⟩ : ∃ p, nN + 1 = p := ⟨_, rfl⟩
  have HnP : Hid (nN + 1 = nP) := hnP
  rw [hnP]
  have HNd : Hid (∀ (g : Nat) (F : Nat → Nat) (ρ : Nat → RuleI) (r : RuleI) (W : World), SRow W g nP F ρ → (∀ p, F p ≤ 62) → -1 ≤ r.2.1 → -1 ≤ r.2.2.1 → plc r.2.1 < nP → plc r.2.2.1 < nP → Calls Try.prog 39 #[.slice (some ⟨g, 0, none⟩) nP nP, ruleV r] W (Says (.int .i64 ((ndsF F r : Nat) : Int)) W)) := fun g F ρ r W h1 h2 h3 h4 h5 h6 => nodes_any g nP F ρ r W h1 h2 (by omega) h3 h4 h5 h6
  obtain ⟨W1, hW1, g1, s1, bx1⟩ := box5_new w (.int .i64 L) (.int .i64 (nN : Int)) (.slice b nR d) (.int .i64 S0) (.slice e nM f) 25
  have HW1 : Hid (W1 = _) := hW1
  have G1 : Hid (w.grownBy W1 none) := g1
  have B1 : Hid (∀ W', W1.grownBy W' none → W'.cell? ⟨w.heap.size, 2, none⟩ = some (.slice b nR d)) := fun W' hW' => (bx1 W' hW').2.2.1
  obtain ⟨W2, hmk, hrow, g2, s2⟩ := seeds_make W1 nP (by omega)
  have HP0 : Hid (∀ W, Calls Try.prog 28 #[.int .i64 (nN : Int)] W fun e w' => e = .returned (.int .i64 (nP : Int)) ∧ w' = W) := HPl.out nN nP (by omega) (by omega)
  have HP1 : Hid (∀ W, Calls Try.prog 28 #[.int .i64 (-1)] W fun e w' => e = .returned (.int .i64 0) ∧ w' = W) := HPl.out (-1) 0 (by omega) (by omega)
  obtain ⟨gs, hgs⟩ : ∃ gs, W1.heap.size = gs := ⟨_, rfl⟩
  rw [hgs] at hmk hrow s2
  rw [hW1] at hmk
  have S2 : Hid (∀ wq, W2.grownBy wq (some gs) → W1.grownBy wq none) := fun wq hh => grown_new g2 hh (by omega)
  have Hgs : Hid (w.heap.size ≤ gs) := by show _ ≤ _; omega
  have R0 : Hid (SRow W2 gs nP (iniF 0) (fun _ => ru0)) := hrow.congr fun i hi => rfl
  have hnP0 : (0 : Int) < (nP : Int) := by omega
  have hnP3 : nP ≤ 301 := by omega
  clear h hR hnR hW1 g1 s1 bx1 hrow g2 s2 hgs hnP
  go_enter Try.func30, Try.ntmps30
  go_wp2_with fail
  refine (HP0.out _).mono ?_
  rintro E w2 ⟨rfl, hw2⟩
  subst hw2
  go_wp2_with fail
  clear hmk
  go_loopw [15] (fun v wr => ∃ k : Nat, v = .int .i64 k ∧ k ≤ nP ∧ SRow wr gs nP (iniF k) (fun _ => ru0) ∧ W2.grownBy wr (some gs)) (fun v _ => nP - (intOf v).toNat)
  case atStart => exact ⟨0, rfl, by omega, R0.out, grown_refl _ _⟩
  case round =>
    obtain ⟨k, rfl, hk, hrow, hgw⟩ := hrel
    have RW : Hid (SRow wr gs nP (iniF k) (fun _ => ru0)) := hrow
    have GW : Hid (W2.grownBy wr (some gs)) := hgw
    clear hrow hgw R0
    by_cases hkn : k < nP
    · have qk : (k : Int) < (nP : Int) := by omega
      have xk := RW.out.cell hkn
      have fk := RW.out.frozen (k * 5)
      have HN : Hid (SRow (wr.setCell ⟨gs, k * 5, none⟩ (.int .i64 62)) gs nP (iniF (k + 1)) (fun _ => ru0)) := (RW.out.num (v := 62) hkn).congr fun i hi => ini_step k i
      have HG : Hid (W2.grownBy (wr.setCell ⟨gs, k * 5, none⟩ (.int .i64 62)) (some gs)) := grown_trans GW.out (grown_set _ _ _)
      go_wp2_with fail
      go_roundw
      case rel => exact ⟨k + 1, by go_num, by omega, HN.out, HG.out⟩
      case measure => simp [intOf]; omega
    · have qk : ¬ (k : Int) < (nP : Int) := by omega
      obtain rfl : k = nP := by omega
      have x0 := RW.out.cell (i := 0) (by omega)
      have f0 := RW.out.frozen 0
      simp only [Nat.zero_mul] at x0
      obtain ⟨W3, hW3⟩ : ∃ W3, W3 = wr.setCell ⟨gs, 0, none⟩ (.int .i64 0) := ⟨_, rfl⟩
      have HW3 : Hid (W3 = _) := hW3
      have R3 : Hid (SRow W3 gs k begF (fun _ => ru0)) := by
        show SRow _ _ _ _ _
        rw [hW3]
        have := (RW.out.num (i := 0) (v := 0) (by omega)).congr (G := begF) fun i hi => beg_eq hi
        rw [Nat.zero_mul] at this
        exact this
      have G3 : Hid (W2.grownBy W3 (some gs)) := by rw [hW3]; exact grown_trans GW.out (grown_set _ _ _)
      have I3 : Hid (SeedI R begF (fun _ => ru0)) := SeedI.start R _ _ rfl (fun p hp => by unfold begF; rw [if_neg (by omega)])
      clear hW3
      go_wp2_with fail
      refine (HP1.out _).mono ?_
      rintro E w2 ⟨rfl, hw2⟩
      subst hw2
      go_wp2_with fail
      rw [← HW3.out]
      clear x0 f0
      go_loopw [5] (fun v wr => ∃ (sm : Bool) (F : Nat → Nat) (ρ : Nat → RuleI), v = .bool sm ∧ SRow wr gs k F ρ ∧ SeedI R F ρ ∧ (sm = false → Fixed R F) ∧ W2.grownBy wr (some gs)) (fun v wr => 2 * sumW wr gs k + bitV v)
      case atStart => exact ⟨true, _, _, rfl, R3.out, I3.out, (fun e => by cases e), G3.out⟩
      case round =>
        rename World => wr
        obtain ⟨sm, F, ρ, rfl, hrow, hinv, hfix, hgw⟩ := hrel
        have RR : Hid (SRow wr gs k F ρ) := hrow
        have II : Hid (SeedI R F ρ) := hinv
        have GR : Hid (W2.grownBy wr (some gs)) := hgw
        have FX : Hid (sm = false → Fixed R F) := hfix
        clear hrow hinv hgw hfix R3 I3 RW GW HW3 G3
        cases sm
        case false =>
          have Fin : Hid (NewPost R k w (.returned (.slice (some ⟨gs, 0, none⟩) k k)) wr) := ⟨gs, F, ρ, rfl, RR.out, II.out, FX.out rfl, grown_trans G1.out (S2.out wr GR.out), Hgs.out⟩
          go_wp2_with fail
          go_ret
          exact Fin.out
        have x2 := B1.out wr (S2.out wr GR.out)
        have HS : Hid (sumW wr gs k = sumF F k) := RR.out.sum
        obtain ⟨s0, hs0⟩ : ∃ s0, sumF F k = s0 := ⟨_, rfl⟩
        rw [hs0] at HS
        have N0 : Hid (NewI W2 wr gs k R s0 0 false F ρ) := ⟨RR.out, II.out, fun _ i hi => by omega, by rw [hs0]; simp [bitB], GR.out⟩
        clear hs0 FX
        go_wp2_with fail
        clear x2
        go_loopw [5, 31] (fun v5 v31 wq => ∃ (j : Nat) (sm : Bool) (F : Nat → Nat) (ρ : Nat → RuleI), v5 = .bool sm ∧ v31 = .int .i64 j ∧ j ≤ nR ∧ NewI W2 wq gs k R s0 j sm F ρ) (fun _ v31 _ => nR - (intOf v31).toNat)
        case atStart => exact ⟨0, false, F, ρ, rfl, rfl, by omega, N0.out⟩
        case round =>
          rename World => wq
          clear N0 RR II
          obtain ⟨j, sm, F', ρ', rfl, rfl, hj, hI⟩ := hrel
          have NI : Hid (NewI W2 wq gs k R s0 j sm F' ρ') := hI
          clear hI
          by_cases hjn : j < nR
          · have qj : (j : Int) < (nR : Int) := by omega
            have GQ : Hid (w.grownBy wq none) := grown_trans G1.out (S2.out wq NI.out.gr)
            obtain ⟨b2, off2, hb2, hc⟩ := (HR.out wq GQ.out).at (k := j) (by rw [HnR.out]; exact hjn)
            subst hb2
            obtain ⟨y0, y1, y2, y3⟩ := hc j (by rw [HnR.out]; exact hjn)
            have hin : RuIn L nN (R.getD j ru0) := HRu.out j (by rw [HnR.out]; exact hjn)
            have hmem : R.getD j ru0 ∈ R := mem_getD (by rw [HnR.out]; exact hjn)
            have HFx : Hid (∀ (F : Nat → Nat), (∀ i, i < j → F (plc (R.getD i ru0).2.2.2) ≤ ndsF F (R.getD i ru0)) → F (plc (R.getD j ru0).2.2.2) ≤ ndsF F (R.getD j ru0) → ∀ i, i < j + 1 → F (plc (R.getD i ru0).2.2.2) ≤ ndsF F (R.getD i ru0)) := fun F h1 h2 i hi => by
              by_cases ei : i = j
              · subst ei; exact h2
              · exact h1 i (by omega)
            have HME : Hid (R.getD j ru0 ∈ R) := hmem
            unfold RuIn at hin
            have hnP' := HnP.out
            have hp1 : -1 ≤ (R.getD j ru0).2.1 := by omega
            have hp2 : -1 ≤ (R.getD j ru0).2.2.1 := by omega
            have hp3 : plc (R.getD j ru0).2.1 < k := by unfold plc; omega
            have hp4 : plc (R.getD j ru0).2.2.1 < k := by unfold plc; omega
            obtain ⟨t, ht⟩ : ∃ t, plc (R.getD j ru0).2.2.2 = t := ⟨_, rfl⟩
            have htk : t < k := by unfold plc at ht; omega
            have ht1 : 1 ≤ t := by unfold plc at ht; omega
            have htz : (R.getD j ru0).2.2.2 + 1 = (t : Int) := by unfold plc at ht; omega
            have HTt : Hid (plc (R.getD j ru0).2.2.2 = t) := ht
            have HPt : Hid (∀ W, Calls Try.prog 28 #[.int .i64 (R.getD j ru0).2.2.2] W fun e w' => e = .returned (.int .i64 (t : Int)) ∧ w' = W) := HPl.out _ t htz (by omega)
            have HNn : Hid (∀ W, wq.grownBy W none → Calls Try.prog 39 #[.slice (some ⟨gs, 0, none⟩) k k, ruleV (R.getD j ru0)] W (Says (.int .i64 ((ndsF F' (R.getD j ru0) : Nat) : Int)) W)) := fun W hW => HNd.out gs F' ρ' _ W (NI.out.row.kept hW) NI.out.inv.le hp1 hp2 hp3 hp4
            clear hc hin hmem hnP' hp1 hp2 hp3 hp4 ht htz
            obtain ⟨z, hz⟩ : ∃ z, ndsF F' (R.getD j ru0) = z := ⟨_, rfl⟩
            rw [hz] at HNn
            have HZ : Hid (ndsF F' (R.getD j ru0) = z) := hz
            have hz62 : z ≤ 62 := by rw [← hz]; exact ndsF_le _ _
            clear hz
            generalize R.getD j ru0 = r at *
            obtain ⟨r0, r1, r2, r3⟩ := r
            simp only [ruleV] at *
            obtain ⟨WR, hWR⟩ : ∃ WR, WR = wq.alloc (.cells #[.int .i64 r0, .int .i64 r1, .int .i64 r2, .int .i64 r3] 46) := ⟨_, rfl⟩
            have HWR : Hid (WR = _) := hWR
            have gR : wq.grownBy WR none := by rw [hWR]; exact grown_alloc _ _
            have GRR : Hid (wq.grownBy WR none) := gR
            have hrb := heap_alloc_new wq (.cells #[.int .i64 r0, .int .i64 r1, .int .i64 r2, .int .i64 r3] 46)
            rw [← hWR] at hrb
            have UB : Hid (∀ W, WR.grownBy W none → W.cell? ⟨wq.heap.size, 0, none⟩ = some (.int .i64 r0) ∧ W.cell? ⟨wq.heap.size, 1, none⟩ = some (.int .i64 r1) ∧ W.cell? ⟨wq.heap.size, 2, none⟩ = some (.int .i64 r2) ∧ W.cell? ⟨wq.heap.size, 3, none⟩ = some (.int .i64 r3)) := fun W hW => ⟨hW.cell (by rw [cell_of_row _ _ 0 _ _ (0, 0) hrb]; rfl) (by simp), hW.cell (by rw [cell_of_row _ _ 1 _ _ (0, 0) hrb]; rfl) (by simp), hW.cell (by rw [cell_of_row _ _ 2 _ _ (0, 0) hrb]; rfl) (by simp), hW.cell (by rw [cell_of_row _ _ 3 _ _ (0, 0) hrb]; rfl) (by simp)⟩
            clear hWR gR hrb
            go_wp2_with fail
            rw [← HWR.out]
            refine (HNn.out _ GRR.out).mono ?_
            rintro E w3 ⟨rfl, hg3⟩
            obtain ⟨u0, u1, u2, u3⟩ := UB.out w3 hg3
            have GT : Hid (wq.grownBy w3 none) := grown_trans GRR.out hg3
            have R3 : Hid (SRow w3 gs k F' ρ') := NI.out.row.kept (grown_trans GRR.out hg3)
            clear hg3 y0 y1 y2 y3
            go_wp2_with fail
            refine (HPt.out _).mono ?_
            rintro E w4 ⟨rfl, hw4⟩
            subst hw4
            have ct := R3.out.cell htk
            have it : (t : Int) < (k : Int) := by omega
            have f0 := R3.out.frozen (t * 5)
            have f1 := R3.out.frozen (t * 5 + 1)
            have f2 := R3.out.frozen (t * 5 + 2)
            have f3 := R3.out.frozen (t * 5 + 3)
            have f4 := R3.out.frozen (t * 5 + 4)
            obtain ⟨q1, q2, q3, q4⟩ := R3.out.rule htk
            have GW3 : Hid (W2.grownBy w4 (some gs)) := grown_trans NI.out.gr (grown_some GT.out)
            by_cases hlt : z < F' t
            · have hlz : (z : Int) < (F' t : Int) := by omega
              have HN : Hid (NewI W2 (((((w4.setCell ⟨gs, t * 5, none⟩ (.int .i64 (z : Int))).setCell ⟨gs, t * 5 + 1, none⟩ (.int .i64 r0)).setCell ⟨gs, t * 5 + 2, none⟩ (.int .i64 r1)).setCell ⟨gs, t * 5 + 3, none⟩ (.int .i64 r2)).setCell ⟨gs, t * 5 + 4, none⟩ (.int .i64 r3)) gs k R s0 (j + 1) true (updF F' t z) (updF ρ' t (r0, r1, r2, r3))) := by
                refine ⟨R3.out.put htk (r0, r1, r2, r3), ?_, (fun e => by cases e), ?_, ?_⟩
                · have := NI.out.inv.put HRu.out HME.out (by rw [HTt.out]; exact ht1) (by rw [HTt.out, HZ.out]; exact hlt)
                  rwa [HTt.out, HZ.out] at this
                · have h1 := sumF_upd (n := k) htk hlt
                  have h2 := NI.out.sum
                  simp only [bitB] at h2 ⊢
                  split at h2 <;> simp <;> omega
                · exact grown_set2 (grown_set2 (grown_set2 (grown_set2 (grown_trans GW3.out (grown_set _ _ _)) _ _) _ _) _ _) _ _
              clear UB HNn HFx
              go_wp2_with fail
              go_region_with (go_at_call 28; refine (HPt.out _).mono ?_; rintro E w5 ⟨rfl, hw5⟩; subst hw5)
              all_goals
                go_wp2_with fail
                go_roundw
                case rel => exact ⟨j + 1, true, _, _, rfl, by go_num, by omega, by first | exact HN.out | exact HN.out.drew⟩
                case measure => simp [intOf]; omega
            · have hlz : ¬ (z : Int) < (F' t : Int) := by omega
              have HN : Hid (NewI W2 w4 gs k R s0 (j + 1) sm F' ρ') := by
                refine ⟨R3.out, NI.out.inv, fun e => HFx.out F' (NI.out.fix e) ?_, NI.out.sum, GW3.out⟩
                rw [HTt.out, HZ.out]; omega
              clear UB HNn HFx
              go_wp2_with fail
              go_roundw
              case rel => exact ⟨j + 1, sm, _, _, rfl, by go_num, by omega, HN.out⟩
              case measure => simp [intOf]; omega
          · have qj : ¬ (j : Int) < (nR : Int) := by omega
            obtain rfl : j = nR := by omega
            have HS2 : Hid (sumW wq gs k = sumF F' k) := NI.out.row.sum
            have HSum : Hid (sumF F' k + bitB sm ≤ s0) := NI.out.sum
            go_wp2_with fail
            go_roundw
            case rel => exact ⟨sm, F', ρ', rfl, NI.out.row, NI.out.inv, fun e r hr => by
              obtain ⟨i, hi, er⟩ := getD_mem hr
              rw [← er]
              exact NI.out.fix e i (by rw [← HnR.out]; exact hi), NI.out.gr⟩
            case measure =>
              have h1 := HS2.out
              have h2 := HSum.out
              have h3 := HS.out
              rw [bitV_bool, h1, h3]
              show 2 * sumF F' k + bitB sm < 2 * s0 + 1
              cases sm <;> simp [bitB] at h2 ⊢ <;> omega

end Go.Proofs.Ytofjmakmbmndoaa
